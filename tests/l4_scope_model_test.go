package tests

import (
	"slices"
	"strconv"
	"testing"

	"loop.example/g00837/impl"
)

// scopeByForm asks for each thing that a good scope has, each object, import and use against all others.
func scopeByForm(s impl.Scope) bool {
	if !impl.GoodName(s.Name) || !modelOf(s.Types).good || len(s.Imports) > 4 || len(s.Objects) > 16 || len(s.Uses) > 40 {
		return false
	}
	// The scope's name may be an object's, but no import's; an import's may be no object's.
	called := append([]string{s.Name}, s.Imports...)
	if !unlikeByForm(called) {
		return false
	}
	called = called[1:]
	for _, o := range s.Objects {
		called = append(called, o.Name)
		if !objectByForm(o, len(s.Types)) {
			return false
		}
	}
	for i, u := range s.Uses {
		if !impl.GoodName(u.Name) || slices.Index(s.Imports, u.Mod) < 0 || slices.Index(s.Uses, u) != i {
			return false
		}
	}
	return unlikeByForm(called)
}

func unlikeByForm(names []string) bool {
	for i, name := range names {
		if !impl.GoodName(name) || slices.Index(names, name) != i {
			return false
		}
	}
	return true
}

func objectByForm(o impl.Object, types int) bool {
	if !isIn(o.Kind, 1, 4) || !isIn(o.Mark, 0, 2) || o.Kind != 3 && o.Mark == 2 || len(o.Params) > 4 {
		return false
	}
	if o.Kind != 4 && len(o.Params) > 0 || o.Kind != 1 && o.Value != 0 || !isIn(o.Value, -1000000000, 1000000000) {
		return false
	}
	least, greatest := 0, types-1
	switch o.Kind {
	case 1:
		greatest = 0
	case 4:
		least = -1
	}
	var names []string
	for _, p := range o.Params {
		names = append(names, p.Name)
		if !isIn(p.Type, 0, types-1) {
			return false
		}
	}
	return isIn(o.Type, least, greatest) && unlikeByForm(names)
}

// metByStack tells the numbers of the types in the order in which they are met from some, the first
// three ahead of all.
func metByStack(l []impl.Type, from []int) []int {
	met := []int{0, 1, 2}
	stack := slices.Clone(from)
	slices.Reverse(stack)
	for len(stack) > 0 {
		n := stack[len(stack)-1]
		stack = stack[:len(stack)-1]
		if n < 0 || slices.Contains(met, n) {
			continue
		}
		met = append(met, n)
		for i := len(l[n].Fields) - 1; i >= 0; i-- {
			stack = append(stack, l[n].Fields[i].Type)
		}
		stack = append(stack, l[n].Base)
	}
	return met
}

func exportByStack(s impl.Scope) impl.Scope {
	s = copyOfScope(s)
	export := impl.Scope{Name: s.Name}
	var from []int
	for _, o := range s.Objects {
		if o.Mark == 0 {
			continue
		}
		export.Objects = append(export.Objects, o)
		from = append(from, o.Type)
		for _, p := range o.Params {
			from = append(from, p.Type)
		}
	}
	met := metByStack(s.Types, from)
	for _, n := range met {
		one := hiddenLeftOut(s.Types[n])
		one.Base = slices.Index(met, one.Base)
		for i := range one.Fields {
			one.Fields[i].Type = slices.Index(met, one.Fields[i].Type)
		}
		export.Types = append(export.Types, one)
	}
	for i, o := range export.Objects {
		export.Objects[i].Type = slices.Index(met, o.Type)
		for k, p := range o.Params {
			o.Params[k].Type = slices.Index(met, p.Type)
		}
	}
	return export
}

// alikeByForm tells whether two objects are alike by which types are.
func alikeByForm(one, other impl.Object, alike [][]bool) bool {
	if one.Name != other.Name || one.Kind != other.Kind || one.Mark != other.Mark || one.Value != other.Value || len(one.Params) != len(other.Params) {
		return false
	}
	if min(one.Type, other.Type) < 0 {
		if one.Type != other.Type {
			return false
		}
	} else if !alike[one.Type][other.Type] {
		return false
	}
	for i, p := range one.Params {
		q := other.Params[i]
		if p.Name != q.Name || p.ByVar != q.ByVar || !alike[p.Type][q.Type] {
			return false
		}
	}
	return true
}

// checkAlike asks for all pairs of objects of two good scopes, and for the scopes.
func checkAlike(t *testing.T, a, b impl.Scope) bool {
	t.Helper()
	alike := allAlike(a.Types, b.Types)
	all := a.Name == b.Name && slices.Equal(a.Imports, b.Imports) && len(a.Objects) == len(b.Objects)
	for x, one := range a.Objects {
		for y, other := range b.Objects {
			are := alikeByForm(one, other, alike)
			wantAlikeObjects(t, a, x, b, y, are, true)
			all = all && (x != y || are)
		}
	}
	wantAlike(t, a, b, all, true)
	return all
}

// checkScope asks for all that is told of one scope.
func checkScope(t *testing.T, s impl.Scope) bool {
	t.Helper()
	if !scopeByForm(s) {
		wantGoodScope(t, s, false)
		return false
	}
	wantPromised(t, s)
	wantExport(t, s, exportByStack(s))
	var shown []string
	for _, o := range s.Objects {
		if o.Mark > 0 {
			shown = append(shown, o.Name)
		}
	}
	wantShown(t, s, shown, true)
	for _, name := range []string{"", "a", "b0", "zz", "M"} {
		n := slices.IndexFunc(s.Objects, func(o impl.Object) bool { return o.Name == name })
		wantObject(t, s, name, max(n, 0), n >= 0)
	}
	return true
}

// someTable tells a table, most of which are good.
func (r *row) someTable() []impl.Type {
	many := 4 + r.below(8)
	l := impl.BaseTypes()
	for n := 3; n < many; n++ {
		l = append(l, r.someType(n, many))
	}
	repaired(l)
	repaired(l)
	return l
}

func (r *row) someObject(name string, types int) impl.Object {
	of := r.below(types)
	switch r.below(4) {
	case 0:
		return constOf(name, r.below(2), r.below(5)-2)
	case 1:
		return typeOf(name, r.below(2), of)
	case 2:
		return varOf(name, r.below(3), of)
	}
	o := procOf(name, r.below(2), of)
	if r.below(3) == 0 {
		o.Type = -1
	}
	for i := range r.below(impl.MaxParams + 1) {
		o.Params = append(o.Params, param([]string{"a", "b", "c", "d"}[i], r.below(2) == 0, r.below(types)))
	}
	return o
}

func (r *row) someScope() impl.Scope {
	s := impl.Scope{Name: []string{"M", "N", "a"}[r.below(3)], Types: r.someTable()}
	s.Imports = []string{"I", "K", "L", "J"}[:r.below(5)]
	for n := range r.below(8) {
		s.Objects = append(s.Objects, r.someObject([]string{"a", "b", "c"}[r.below(3)]+strconv.Itoa(n), len(s.Types)))
	}
	for n := range r.below(4) * len(s.Imports) {
		s.Uses = append(s.Uses, impl.Use{Mod: s.Imports[n%len(s.Imports)], Name: "u" + strconv.Itoa(n)})
	}
	return s
}

// changed tells a scope with one number or text in it made otherwise, which may leave it good or not.
func (r *row) changed(s impl.Scope) impl.Scope {
	s = copyOfScope(s)
	number := []int{-2, -1, 0, 0, 1, 1, 2, 3, 4, 5, 12, impl.MaxWhole, impl.MaxWhole + 1}[r.below(13)]
	text := []string{"", "a0", "b1", "M", "I", "K", "u1", "x", "INT", "a b"}[r.below(10)]
	switch r.below(4) {
	case 0:
		s.Name = text
	case 1:
		if n := len(s.Imports); n > 0 {
			s.Imports[r.below(n)] = text
		}
	case 2:
		if n := len(s.Uses); n > 0 {
			use := &s.Uses[r.below(n)]
			*[]*string{&use.Mod, &use.Name}[r.below(2)] = text
		}
	default:
		one := &s.Types[r.below(len(s.Types))]
		*[]*int{&one.Kind, &one.Long, &one.Base}[r.below(3)] = number
	}
	return s
}

// changedObject tells a scope with an object that is made otherwise.
func (r *row) changedObject(s impl.Scope) impl.Scope {
	s = copyOfScope(s)
	if len(s.Objects) == 0 {
		return s
	}
	number := []int{-2, -1, 0, 0, 1, 1, 2, 3, 4, 5, 12, impl.MaxWhole, impl.MaxWhole + 1}[r.below(13)]
	text := []string{"", "a", "a0", "b1", "c2", "M", "I", "x", "INT", "a b"}[r.below(10)]
	o := &s.Objects[r.below(len(s.Objects))]
	many := len(o.Params)
	switch choice := r.below(7); {
	case choice == 0:
		o.Name = text
	case choice == 1 || choice > 4 && many == 0:
		*[]*int{&o.Kind, &o.Mark, &o.Value}[r.below(3)] = number
	case choice == 2:
		o.Type = number
	case choice == 3:
		o.Params = append(o.Params, param(text, number < 2, number))
	case choice == 4:
		s.Objects[0], *o = *o, s.Objects[0]
	case choice == 5:
		o.Params[r.below(many)].Type = number
	default:
		o.Params[r.below(many)].Name = text
	}
	return s
}

func TestManyScopes(t *testing.T) {
	r := &row{seed: 3}
	good, others, unlike := 0, 0, 0
	for range 3000 {
		s := r.someScope()
		if !checkScope(t, s) {
			continue
		}
		good++
		export := exportByStack(s)
		for _, other := range []impl.Scope{export, r.changed(export), r.changedObject(export)} {
			if checkScope(t, other) && !sameByHand(other, export) {
				others++
			}
		}
		order := numbersOf(s.Types)
		for n := 3; n < len(order); n++ {
			m := n + r.below(len(order)-n)
			order[n], order[m] = order[m], order[n]
		}
		if turned := renumberedScope(s, order); !checkAlike(t, s, turned) {
			t.Fatalf("%v is not alike with other numbers", s)
		}
		for _, other := range []impl.Scope{r.changed(s), r.changedObject(s)} {
			wantSameScope(t, s, other, sameByHand(s, other))
			if checkScope(t, other) && !checkAlike(t, s, other) {
				unlike++
			}
		}
	}
	if good < 1500 || others < 500 || unlike < 500 {
		t.Error("too few scopes of each sort", good, others, unlike)
	}
}

// TestScopesAnswerAnything asks for scopes of any size with any numbers in them: a panic fails.
func TestScopesAnswerAnything(t *testing.T) {
	r := &row{seed: 11}
	some := []int{-1 << 63, -1000, -2, -1, 0, 1, 2, 3, 4, 5, 16, 17, 24, 1 << 32, 1<<63 - 1}
	texts := []string{"", "x", "INT", "M", "I", "a b", "\xff", "abcdefghijk"}
	any := func() int { return some[r.below(len(some))] }
	text := func() string { return texts[r.below(len(texts))] }
	for range 2000 {
		s := impl.Scope{Name: text(), Types: mixedTypes()}
		if r.below(2) == 0 {
			s.Types = tableOf(impl.Type{Kind: any(), Long: any(), Base: any(), Owner: text(), Name: text(), Fields: []impl.Field{field(text(), any(), any())}})
		}
		for range r.below(6) {
			s.Imports = append(s.Imports, text())
		}
		for range r.below(20) {
			o := impl.Object{Name: text(), Kind: any(), Mark: any(), Type: any(), Value: any()}
			for range r.below(7) {
				o.Params = append(o.Params, param(text(), r.below(2) == 0, any()))
			}
			s.Objects = append(s.Objects, o)
		}
		for range r.below(50) {
			s.Uses = append(s.Uses, impl.Use{Mod: text(), Name: text()})
		}
		checkScope(t, s)
		wantSameScope(t, s, copyOfScope(s), true)
		impl.AlikeObjects(s, any(), fullScope(), any())
		impl.AlikeObjects(fullScope(), any(), fullScope(), any())
		callAllOf(s, fullScope())
		callAllOf(fullScope(), s)
	}
}
