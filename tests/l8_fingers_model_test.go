package tests

import (
	"slices"
	"sort"
	"testing"

	"loop.example/g00837/impl"
)

// mixedOf tells MixAll by mixOf.
func mixedOf(l ...int) int {
	sum := len(l)
	for _, n := range l {
		sum = mixOf(sum, n)
	}
	return sum
}

func textMixed(s string) int {
	var l []int
	for _, c := range []byte(s) {
		l = append(l, int(c))
	}
	return mixedOf(l...)
}

// backModel tells the numbers of types from the last round back to the first one, each when it is
// asked for.
type backModel struct {
	types []impl.Type
	told  map[[2]int]int
	texts map[string]int
}

func backOf(l []impl.Type) backModel {
	return backModel{types: l, told: map[[2]int]int{}, texts: map[string]int{}}
}

func (m backModel) text(s string) int {
	if _, ok := m.texts[s]; !ok {
		m.texts[s] = textMixed(s)
	}
	return m.texts[s]
}

// sum tells the number of type n behind some rounds, and ahead of all of them at 0.
func (m backModel) sum(n, rounds int) int {
	at := [2]int{n, rounds}
	if told, ok := m.told[at]; ok {
		return told
	}
	one := m.types[n]
	l := []int{one.Kind, one.Long, m.text(one.Owner), m.text(one.Name), len(one.Fields)}
	if rounds > 0 {
		l = []int{m.sum(n, 0), 7}
		if one.Base >= 0 {
			l[1] = m.sum(one.Base, rounds-1)
		}
		for _, f := range one.Fields {
			l = append(l, m.text(f.Name), f.Mark, m.sum(f.Type, rounds-1))
		}
	}
	m.told[at] = mixedOf(l...)
	return m.told[at]
}

func (m backModel) object(o impl.Object) int {
	l := []int{m.text(o.Name), o.Kind, o.Mark, o.Value, 5}
	if o.Type >= 0 {
		l[4] = m.sum(o.Type, 25)
	}
	for _, p := range o.Params {
		by := map[bool]int{true: 1, false: 0}[p.ByVar]
		l = append(l, m.text(p.Name), by, m.sum(p.Type, 25))
	}
	return mixedOf(l...)
}

// fingersByNames tells the fingers of a good scope: the names first, then what they are of.
func (m backModel) fingersByNames(s impl.Scope) []impl.Finger {
	var names []string
	at := map[string]impl.Object{}
	for _, o := range s.Objects {
		if o.Mark == 1 || o.Mark == 2 {
			names = append(names, o.Name)
			at[o.Name] = o
		}
	}
	sort.Strings(names)
	var l []impl.Finger
	for _, name := range names {
		l = append(l, impl.Finger{Name: name, Mark: at[name].Mark, Sum: m.object(at[name])})
	}
	return l
}

// checkRounds asks for all numbers of a table's types, and tells whether they are good.
func checkRounds(t *testing.T, l []impl.Type) bool {
	t.Helper()
	if !modelOf(l).good {
		wantNoRounds(t, l)
		return false
	}
	m := backOf(l)
	for rounds := range 26 {
		var want []int
		for n := range l {
			want = append(want, m.sum(n, rounds))
		}
		wantRounds(t, l, rounds, want)
	}
	for n := range l {
		wantTypeFinger(t, l, n, m.sum(n, 25), true)
	}
	checkApart(t, l)
	return true
}

// checkApart asks whether types that are unlike in one round are so in the next one, and whether behind
// the last one just those have the same number that are alike.
func checkApart(t *testing.T, l []impl.Type) {
	t.Helper()
	ahead := make([]int, len(l))
	for rounds := range 26 {
		sums := roundsOf(t, l, rounds)
		for x := range l {
			for y := range l {
				if ahead[x] != ahead[y] && sums[x] == sums[y] {
					t.Fatalf("types %d and %d of %v come together in round %d", x, y, l, rounds)
				}
			}
		}
		ahead = sums
	}
	wantToldApart(t, l, l)
}

// wantToldApart asks whether types of two tables have the same number just where they are alike.
func wantToldApart(t *testing.T, a, b []impl.Type) {
	t.Helper()
	one, other := roundsOf(t, a, 25), roundsOf(t, b, 25)
	for x, are := range allAlike(a, b) {
		for y, alike := range are {
			if (one[x] == other[y]) != alike {
				t.Fatalf("type %d of %v and %d of %v: alike is %v", x, a, y, b, alike)
			}
		}
	}
}

// checkFingers asks for all that is told of one scope by the chapter, and tells whether it is good.
func checkFingers(t *testing.T, s impl.Scope) bool {
	t.Helper()
	names := []string{"", "a", "a0", "b0", "R", "x", "INT", "a b", s.Name}
	if !scopeByForm(s) {
		wantNoFingers(t, s, names)
		return false
	}
	m := backOf(s.Types)
	fingers := m.fingersByNames(s)
	wantFingers(t, s, fingers)
	for n, o := range s.Objects {
		wantObjectFinger(t, s, n, m.object(o), true)
		names = append(names, o.Name)
	}
	for _, name := range names {
		i := slices.IndexFunc(fingers, func(f impl.Finger) bool { return f.Name == name })
		if i < 0 {
			wantFingerAt(t, s, name, 0, false)
		} else {
			wantFingerAt(t, s, name, fingers[i].Sum, true)
		}
	}
	all := []int{textMixed(s.Name)}
	for _, f := range fingers {
		all = append(all, f.Sum)
	}
	wantScopeFinger(t, s, mixedOf(all...), true)
	return true
}

// wantSameFingers asks for the same answers of two scopes.
func wantSameFingers(t *testing.T, a, b impl.Scope) {
	t.Helper()
	fingers, ok := impl.FingersOf(b)
	if !ok {
		t.Fatalf("no fingers of %v", b)
	}
	wantFingers(t, a, fingers)
	for _, f := range fingers {
		wantFingerAt(t, a, f.Name, f.Sum, true)
	}
	sum, _ := impl.ScopeFinger(b)
	wantScopeFinger(t, a, sum, true)
}

// wantObjectsToldApart asks whether objects of two scopes have the same finger just where they are
// alike, and whether the scopes have where what they show is.
func wantObjectsToldApart(t *testing.T, a, b impl.Scope) {
	t.Helper()
	alike := allAlike(a.Types, b.Types)
	for x, one := range a.Objects {
		for y, other := range b.Objects {
			first, _ := impl.ObjectFinger(a, x)
			second, _ := impl.ObjectFinger(b, y)
			if are := alikeByForm(one, other, alike); (first == second) != are {
				t.Fatalf("object %d of %v and %d of %v: alike is %v", x, a, y, b, are)
			}
		}
	}
	fingers, _ := impl.FingersOf(a)
	others, _ := impl.FingersOf(b)
	first, _ := impl.ScopeFinger(a)
	second, _ := impl.ScopeFinger(b)
	if same := a.Name == b.Name && slices.Equal(fingers, others); same != (first == second) {
		t.Fatalf("%v and %v: the same is %v", a, b, same)
	}
}

// shuffled tells the numbers from a first one on in another order, those ahead of it as they are.
func (r *row) shuffled(many, first int) []int {
	var order []int
	for n := range many {
		order = append(order, n)
	}
	for n := first; n < many; n++ {
		m := n + r.below(many-n)
		order[n], order[m] = order[m], order[n]
	}
	return order
}

// turnedObjects tells a scope with its objects in another order.
func (r *row) turnedObjects(s impl.Scope) impl.Scope {
	s = copyOfScope(s)
	old := slices.Clone(s.Objects)
	for n, from := range r.shuffled(len(old), 0) {
		s.Objects[n] = old[from]
	}
	return s
}

// otherwiseHidden tells a scope that shows the same: what is hidden in it is left out, made otherwise or
// put in, and it has a type more, where there is room.
func (r *row) otherwiseHidden(s impl.Scope) impl.Scope {
	s = copyOfScope(s)
	s.Imports, s.Uses = nil, nil
	var objects []impl.Object
	for _, o := range s.Objects {
		if o.Mark == 0 && r.below(2) == 0 {
			o = r.someObject(o.Name, len(s.Types))
			o.Mark = 0
		}
		if o.Mark > 0 || r.below(3) > 0 {
			objects = append(objects, o)
		}
	}
	s.Objects = objects
	if len(s.Types) < 24 {
		s.Types = append(s.Types, calledSo(recordOf(-1, field("q", 1, 0)), "Q", "Q"))
	}
	if len(s.Objects) < 16 {
		s.Objects = slices.Insert(s.Objects, r.below(len(s.Objects)+1), varOf("hidden", 0, len(s.Types)-1))
	}
	return s
}

func TestRoundsOfAllSmallTables(t *testing.T) {
	good := 0
	ahead := impl.BaseTypes()
	for _, one := range smallTypes() {
		checkRounds(t, tableOf(one))
		for _, other := range smallTypes() {
			l := tableOf(one, other)
			if !modelOf(l).good {
				wantNoRounds(t, l)
				continue
			}
			good++
			m := backOf(l)
			for _, rounds := range []int{0, 1, 2, 25} {
				wantRounds(t, l, rounds, []int{m.sum(0, rounds), m.sum(1, rounds), m.sum(2, rounds), m.sum(3, rounds), m.sum(4, rounds)})
			}
			checkApart(t, l)
			wantToldApart(t, l, ahead)
			ahead = l
		}
	}
	if good < 500 {
		t.Error("too few tables are good to tell much", good)
	}
}

func TestRoundsOfManyLargerTables(t *testing.T) {
	r := &row{seed: 41}
	good := 0
	for range 250 {
		many := 4 + r.below(impl.MaxTypes-3)
		l := impl.BaseTypes()
		for n := 3; n < many; n++ {
			l = append(l, r.someType(n, many))
		}
		repaired(l)
		repaired(l)
		if !checkRounds(t, l) {
			continue
		}
		good++
		order := r.shuffled(many, 3)
		wantRenumbered(t, l, order)
	}
	if good < 80 {
		t.Error("too few tables are good to tell much", good)
	}
}

func TestFingersOfManyScopes(t *testing.T) {
	r := &row{seed: 43}
	good, unlike := 0, 0
	for range 600 {
		s := r.someScope()
		if !checkFingers(t, s) {
			continue
		}
		good++
		wantSameFingers(t, renumberedScope(s, r.shuffled(len(s.Types), 3)), s)
		wantSameFingers(t, r.turnedObjects(s), s)
		wantSameFingers(t, r.otherwiseHidden(s), s)
		export := exportByStack(s)
		checkFingers(t, export)
		wantSameFingers(t, withoutHiddenNames(s), export)
		for _, other := range []impl.Scope{export, r.changed(s), r.changedObject(s)} {
			if checkFingers(t, other) {
				wantObjectsToldApart(t, s, other)
				unlike++
			}
		}
	}
	if good < 300 || unlike < 500 {
		t.Error("too few scopes of each sort", good, unlike)
	}
}

// withoutHiddenNames tells a scope in which the fields that are not shown have no names.
func withoutHiddenNames(s impl.Scope) impl.Scope {
	s = copyOfScope(s)
	for n, one := range s.Types {
		s.Types[n] = hiddenLeftOut(one)
	}
	return s
}

// TestFingersAnswerAnything: a panic fails.
func TestFingersAnswerAnything(t *testing.T) {
	r := &row{seed: 47}
	some := []int{-1 << 63, -1000, -2, -1, 0, 1, 2, 3, 4, 5, 16, 24, 25, 26, 1 << 32, 1<<63 - 1}
	texts := []string{"", "x", "INT", "M", "a b", "\xff", "abcdefghijk"}
	any := func() int { return some[r.below(len(some))] }
	text := func() string { return texts[r.below(len(texts))] }
	for range 3000 {
		s := impl.Scope{Name: text(), Types: impl.BaseTypes()[:r.below(4)]}
		if r.below(3) > 0 {
			s.Types = mixedTypes()
		}
		for range r.below(5) * r.below(2) {
			one := impl.Type{Kind: any(), Long: any(), Base: any(), Owner: text(), Name: text()}
			for range r.below(9) {
				one.Fields = append(one.Fields, field(text(), any(), any()))
			}
			s.Types = append(s.Types, one)
		}
		for range r.below(4) {
			o := impl.Object{Name: text(), Kind: any(), Mark: any(), Type: any(), Value: any()}
			for range r.below(7) {
				o.Params = append(o.Params, param(text(), r.below(2) == 0, any()))
			}
			s.Objects = append(s.Objects, o)
		}
		checkFingers(t, s)
		if !modelOf(s.Types).good {
			wantNoRounds(t, s.Types)
		}
		callFingers(s, any(), text())
	}
}
