package tests

import (
	"math/big"
	"slices"
	"testing"

	"loop.example/g00837/impl"
)

// fitModel tells of one table, by other means than the program, what chapter 10 says of all of it.
type fitModel struct {
	good  bool
	l     []impl.Type
	over  [][]bool // whether a record is another one, or has it behind it
	sizes []*big.Int
}

func fitModelOf(l []impl.Type) fitModel {
	m := fitModel{good: modelOf(l).good, l: l}
	if !m.good {
		return m
	}
	m.sizes = sizesByRounds(l)
	m.over = make([][]bool, len(l))
	for n, one := range l {
		m.over[n] = make([]bool, len(l))
		m.over[n][n] = one.Kind == 5
		if one.Kind == 5 && one.Base >= 0 {
			m.over[n][one.Base] = true
		}
	}
	for by := range l {
		for from := range l {
			for to := range l {
				m.over[from][to] = m.over[from][to] || m.over[from][by] && m.over[by][to]
			}
		}
	}
	return m
}

func (m fitModel) isType(n int) bool {
	return m.good && n >= 0 && n < len(m.l)
}

func (m fitModel) isRecord(n int) bool {
	return m.isType(n) && m.l[n].Kind == 5
}

func (m fitModel) mayPut(to, from int) (bool, bool) {
	if !m.isType(to) || !m.isType(from) {
		return false, false
	}
	there, put := m.l[to], m.l[from]
	if to == from || m.over[from][to] {
		return true, true
	}
	if there.Kind == 6 && put.Kind == 6 {
		return there.Base == put.Base || m.over[put.Base][there.Base], true
	}
	return there.Kind == 4 && put.Kind == 4 && there.Base == put.Base && there.Long == put.Long, true
}

func (m fitModel) fields(n int) []impl.Field {
	if !m.isRecord(n) {
		return nil
	}
	return append(m.fields(m.l[n].Base), m.l[n].Fields...)
}

// places counts on from where a field ends up to where the next one may lie.
func (m fitModel) places(n int) ([]impl.Place, bool) {
	if !m.isRecord(n) {
		return nil, false
	}
	var l []impl.Place
	at := 0
	for _, f := range m.fields(n) {
		if m.sizes[f.Type].Cmp(big.NewInt(1000000000)) > 0 {
			return nil, false
		}
		size := int(m.sizes[f.Type].Int64())
		step := size
		if size == 0 {
			step = 1
		} else if size > 8 {
			step = 8
		}
		for at%step != 0 {
			at++
		}
		if at > 1000000000 {
			return nil, false
		}
		l = append(l, impl.Place{Name: f.Name, At: at, Size: size})
		at += size
	}
	return l, true
}

// behindOf tells of a record how many there are that it extends but itself, and the one without a Base.
func (m fitModel) behindOf(n int) (deep, root int) {
	deep = -1
	for b, is := range m.over[n] {
		if is {
			deep++
			if m.l[b].Base < 0 {
				root = b
			}
		}
	}
	return deep, root
}

func wantPut(t *testing.T, l []impl.Type, to, from int, may, good bool) {
	t.Helper()
	if got, ok := impl.MayPut(l, to, from); got != may || ok != good {
		t.Errorf("MayPut(%v, %d, %d) = %v, %v, want %v, %v", l, to, from, got, ok, may, good)
	}
}

func wantAllFields(t *testing.T, l []impl.Type, n int, want []impl.Field, good bool) {
	t.Helper()
	if got, ok := impl.AllFields(l, n); !slices.Equal(got, want) || ok != good {
		t.Errorf("AllFields(%v, %d) = %v, %v, want %v, %v", l, n, got, ok, want, good)
	}
}

func wantLayout(t *testing.T, l []impl.Type, n int, want []impl.Place, good bool) {
	t.Helper()
	if got, ok := impl.LayoutOf(l, n); !slices.Equal(got, want) || ok != good {
		t.Errorf("LayoutOf(%v, %d) = %v, %v, want %v, %v", l, n, got, ok, want, good)
	}
}

func wantPlace(t *testing.T, l []impl.Type, n int, name string, want impl.Place, good bool) {
	t.Helper()
	if got, ok := impl.PlaceOf(l, n, name); got != want || ok != good {
		t.Errorf("PlaceOf(%v, %d, %q) = %v, %v, want %v, %v", l, n, name, got, ok, want, good)
	}
}

func wantDeep(t *testing.T, l []impl.Type, n, deep, root int, good bool) {
	t.Helper()
	if got, ok := impl.DeepOf(l, n); got != deep || ok != good {
		t.Errorf("DeepOf(%v, %d) = %d, %v, want %d, %v", l, n, got, ok, deep, good)
	}
	if got, ok := impl.RootOf(l, n); got != root || ok != good {
		t.Errorf("RootOf(%v, %d) = %d, %v, want %d, %v", l, n, got, ok, root, good)
	}
}

func wantCall(t *testing.T, s impl.Scope, n int, args []int, may, good bool) {
	t.Helper()
	if got, ok := impl.MayCall(s, n, args); got != may || ok != good {
		t.Errorf("MayCall(%v, %d, %v) = %v, %v, want %v, %v", s, n, args, got, ok, may, good)
	}
}

func wantLinedUp(t *testing.T, n, by, want int, good bool) {
	t.Helper()
	if got, ok := impl.LineUp(n, by); got != want || ok != good {
		t.Errorf("LineUp(%d, %d) = %d, %v, want %d, %v", n, by, got, ok, want, good)
	}
}

// wantNoRecord asks for the zero answers of all that is told of records.
func wantNoRecord(t *testing.T, l []impl.Type, n int) {
	t.Helper()
	wantAllFields(t, l, n, nil, false)
	wantLayout(t, l, n, nil, false)
	wantDeep(t, l, n, 0, 0, false)
	for _, name := range fieldNames {
		wantPlace(t, l, n, name, impl.Place{}, false)
	}
}

var fieldNames = []string{"", "x", "y", "z", "u", "w", "none", "a b"}

// wantLaidApart asks for promise 10 of a record of good types.
func wantLaidApart(t *testing.T, l []impl.Type, n int) {
	t.Helper()
	places, ok := impl.LayoutOf(l, n)
	if !ok {
		return
	}
	for i, one := range places {
		for _, other := range places[:i] {
			if one.At < other.At+other.Size && other.At < one.At+one.Size || one.At < other.At {
				t.Errorf("in record %d of %v %v and %v lie over one another", n, l, other, one)
			}
		}
	}
	if base := l[n].Base; base >= 0 {
		behind, ok := impl.LayoutOf(l, base)
		if !ok || len(behind) > len(places) || !slices.Equal(behind, places[:len(behind)]) {
			t.Errorf("in %v record %d is laid as %v, and its base as %v, %v", l, n, places, behind, ok)
		}
	}
}

// checkFit asks for all that is told of one table, and tells whether it is good.
func checkFit(t *testing.T, l []impl.Type) bool {
	t.Helper()
	m := fitModelOf(l)
	for n := -1; n <= min(len(l), 30); n++ {
		for from := -1; from <= min(len(l), 30); from++ {
			may, ok := m.mayPut(n, from)
			wantPut(t, l, n, from, may, ok)
		}
		if !m.isRecord(n) {
			wantNoRecord(t, l, n)
			continue
		}
		wantAllFields(t, l, n, m.fields(n), true)
		deep, root := m.behindOf(n)
		wantDeep(t, l, n, deep, root, true)
		places, ok := m.places(n)
		wantLayout(t, l, n, places, ok)
		for _, name := range fieldNames {
			var last impl.Place
			for _, p := range places {
				if p.Name == name && name != "" {
					last = p
				}
			}
			wantPlace(t, l, n, name, last, last.Name != "")
		}
		wantLaidApart(t, l, n)
	}
	return m.good
}

// mayCall tells whether a proc takes some types, pair by pair.
func (m fitModel) mayCall(s impl.Scope, n int, args []int) (bool, bool) {
	if n < 0 || n >= len(s.Objects) || s.Objects[n].Kind != 4 || len(args) > 4 {
		return false, false
	}
	params := s.Objects[n].Params
	may := len(params) == len(args)
	for i, from := range args {
		if !m.isType(from) {
			return false, false
		}
		if !may {
			continue
		}
		fits := from == params[i].Type
		if !params[i].ByVar {
			fits, _ = m.mayPut(params[i].Type, from)
		}
		may = may && fits
	}
	return may, true
}

// someArgs tells types for a proc, mostly as many as it has Params, and such as fit.
func (r *row) someArgs(m fitModel, o impl.Object) []int {
	var args []int
	for _, p := range o.Params {
		var fit []int
		for n := range m.l {
			if may, _ := m.mayPut(p.Type, n); may {
				fit = append(fit, n)
			}
		}
		switch {
		case len(fit) == 0 || r.below(8) == 0:
			args = append(args, r.below(len(m.l)+1)-r.below(2))
		case p.ByVar && r.below(4) > 0:
			args = append(args, p.Type)
		default:
			args = append(args, fit[r.below(len(fit))])
		}
	}
	switch r.below(10) {
	case 0:
		args = append(args, r.below(len(m.l)+1))
	case 1:
		args = args[:len(args)/2]
	}
	return args
}

// checkCalls asks for calls of all objects of a scope, and tells how many of them may be, and may not.
func (r *row) checkCalls(t *testing.T, s impl.Scope) (are, areNot int) {
	t.Helper()
	m := fitModelOf(s.Types)
	good := scopeByForm(s)
	for n, o := range s.Objects {
		for range 4 {
			args := r.someArgs(m, o)
			may, ok := m.mayCall(s, n, args)
			wantCall(t, s, n, args, may && good, ok && good)
			if ok && good && len(args) > 0 {
				if may {
					are++
				} else {
					areNot++
				}
			}
		}
	}
	wantCall(t, s, len(s.Objects), nil, false, false)
	wantCall(t, s, -1, nil, false, false)
	return are, areNot
}

// TestFitOfAllSmallTables asks for all tables of at most two types behind the first three.
func TestFitOfAllSmallTables(t *testing.T) {
	good := 0
	for _, one := range smallTypes() {
		checkFit(t, tableOf(one))
		for _, other := range smallTypes() {
			if checkFit(t, tableOf(one, other)) {
				good++
			}
		}
	}
	if good < 500 {
		t.Error("too few tables are good to tell much", good)
	}
}

// someFamily tells a table of which many records extend one another, many types are alike, and some
// have as many bytes as can be.
func (r *row) someFamily() []impl.Type {
	l := impl.BaseTypes()
	if r.below(3) == 0 {
		l = nested(3, 1000, 2)
	}
	records := []int{-1}
	for n := len(l); n < impl.MaxTypes; n++ {
		of := records[r.below(len(records))]
		switch {
		case r.below(3) > 0 || of < 0:
			one := recordOf(of)
			for range r.below(4) {
				one.Fields = append(one.Fields, field("", 0, r.below(n)))
			}
			if r.below(2) == 0 && len(one.Fields) > 0 {
				one.Fields[0].Name = []string{"x", "y", "z"}[r.below(3)]
			}
			l, records = append(l, one), append(records, n)
		case r.below(2) == 0:
			l = append(l, pointerTo(of))
		default:
			l = append(l, arrayOf(1+r.below(9), []int{of, 0, 1, 2}[r.below(4)]))
		}
	}
	return l
}

func TestFitOfManyLargerTables(t *testing.T) {
	r := &row{seed: 61}
	good, laid, not := 0, 0, 0
	for i := range 500 {
		l := r.someTable()
		if i%2 == 0 {
			l = r.someFamily()
		}
		if !checkFit(t, l) {
			continue
		}
		good++
		m := fitModelOf(l)
		for n := range l {
			if places, ok := m.places(n); ok && len(places) > 2 {
				laid++
			} else if m.isRecord(n) && !ok {
				not++
			}
		}
	}
	t.Log(good, laid, not)
	if good < 300 || laid < 1000 || not < 20 {
		t.Error("too few tables of each sort", good, laid, not)
	}
}

// TestLayoutsNearMaxWhole lays small fields of all sizes behind large ones.
func TestLayoutsNearMaxWhole(t *testing.T) {
	r := &row{seed: 71}
	laid, not := 0, 0
	for range 400 {
		// 3 has MaxWhole bytes, 8 too many; 6, 11 and 12 come to a few bytes less.
		l := append(nested(3, 1000, 2), arrayOf(999, 4), arrayOf(500, 4), arrayOf(2, 3), pointerTo(8), recordOf(-1))
		l = append(l, arrayOf(999, 5), arrayOf(970+r.below(31), 2), arrayOf(2+r.below(20), 2))
		some := []int{4, 5, 13, 13, 0, 1, 9, 10}
		one, other := recordOf(-1), recordOf(len(l))
		for _, of := range [][]int{{3}, {6, 7}, {6, 11, 12}, {6, 11, 12}, {12, 6, 11}}[r.below(5)] {
			one.Fields = append(one.Fields, field("", 0, of))
		}
		if r.below(12) == 0 {
			other.Fields = append(other.Fields, field("", 0, 8))
		}
		for range r.below(4) {
			one.Fields = append(one.Fields, field("", 0, some[r.below(len(some))]))
			other.Fields = append(other.Fields, field("", 0, some[r.below(len(some))]))
		}
		l = append(l, one, other)
		if !checkFit(t, l) {
			t.Fatal(l)
		}
		if _, ok := impl.LayoutOf(l, len(l)-1); ok {
			laid++
		} else {
			not++
		}
	}
	t.Log(laid, not)
	if laid < 100 || not < 100 {
		t.Error("too few layouts of each sort", laid, not)
	}
}

func TestManyCalls(t *testing.T) {
	r := &row{seed: 81}
	may, mayNot := 0, 0
	for i := range 1500 {
		s := r.someScope()
		if i%2 == 0 {
			s.Types = r.someFamily()
			s.Objects = nil
			for _, name := range []string{"a", "b", "c", "d", "e"} {
				s.Objects = append(s.Objects, r.someObject(name, len(s.Types)))
			}
		}
		if i%10 == 0 {
			s = r.changedObject(s)
		}
		are, areNot := r.checkCalls(t, s)
		may, mayNot = may+are, mayNot+areNot
	}
	t.Log(may, mayNot)
	if may < 1000 || mayNot < 1000 {
		t.Error("too few calls of each sort", may, mayNot)
	}
}

// TestFitAnswersAnything: a panic fails.
func TestFitAnswersAnything(t *testing.T) {
	r := &row{seed: 91}
	some := []int{-1 << 63, -1000, -2, -1, 0, 1, 2, 3, 4, 5, 6, 7, 8, 9, 23, 24, 25, 1000, 1001, 1000000000, 1000000001, 1 << 32, 1<<63 - 8, 1<<63 - 1}
	texts := []string{"", "x", "INT", "M", "a b", "\xff", "abcdefghijk"}
	any := func() int { return some[r.below(len(some))] }
	for i := range 3000 {
		l := make([]impl.Type, r.below(30))
		copy(l, impl.BaseTypes())
		for n := range l {
			if n >= 3 || r.below(40) == 0 {
				l[n] = impl.Type{Kind: any(), Long: any(), Base: any(), Owner: texts[r.below(7)], Name: texts[r.below(7)]}
				for range r.below(9) {
					l[n].Fields = append(l[n].Fields, field(texts[r.below(7)], any(), any()))
				}
			}
		}
		checkFit(t, l)
		if i%3 == 0 {
			l = r.someTable()
		}
		s := scopeOf(l, procOf("p", 0, -1, param("a", true, any()), param("b", false, any())), procOf("q", any(), any()))
		callFit(s, any(), any(), texts[r.below(7)], []int{any(), any()})
		callFit(s, 0, any(), "x", []int{any()})
		impl.LineUp(any(), any())
	}
}
