package tests

import (
	"math/big"
	"slices"
	"testing"

	"loop.example/g00837/impl"
)

// typeModel tells of one table, by other means than the program, what chapter 3 says of all of it.
type typeModel struct {
	shaped bool     // good but for round ones
	good   bool     // good
	ways   [][]bool // whether one comes from a type to another one, by one step at least
	inner  [][]bool // the same without pointers
}

func modelOf(l []impl.Type) typeModel {
	m := typeModel{shaped: shapedByForm(l)}
	if !m.shaped {
		return m
	}
	m.ways = closedWays(l, true)
	m.inner = closedWays(l, false)
	m.good = true
	for n := range l {
		m.good = m.good && !m.inner[n][n]
	}
	return m
}

func isIn(n, low, high int) bool {
	return n >= low && n <= high
}

// shapedByForm asks for each thing that a type has by itself.
func shapedByForm(l []impl.Type) bool {
	if !isIn(len(l), 3, 24) {
		return false
	}
	for n, t := range l {
		var bases []int
		for m, other := range l {
			if t.Kind == 4 || isIn(t.Kind, 5, 6) && other.Kind == 5 || t.Kind == 6 && other.Kind == 4 {
				bases = append(bases, m)
			}
			if n >= 3 && m > n && t.Name != "" && other.Name == t.Name && other.Owner == t.Owner {
				return false
			}
		}
		if t.Kind < 4 || t.Kind == 5 {
			bases = append(bases, -1)
		}
		named := impl.GoodName(t.Name) && (n < 3 && t.Owner == "" || n >= 3 && impl.GoodName(t.Owner))
		if !slices.Contains(bases, t.Base) || !named && (n < 3 || t.Name+t.Owner != "") {
			return false
		}
		if n < 3 && (t.Kind != n+1 || t.Name != []string{"INT", "BOOL", "CHAR"}[n]) || n >= 3 && !isIn(t.Kind, 4, 6) {
			return false
		}
		if t.Kind != 5 && len(t.Fields) != 0 || t.Kind == 4 && !isIn(t.Long, 1, 1000) || t.Kind != 4 && t.Long != 0 {
			return false
		}
		if !fieldsByForm(t.Fields, len(l)) {
			return false
		}
	}
	return true
}

func fieldsByForm(fields []impl.Field, types int) bool {
	for i, f := range fields {
		if !isIn(f.Mark, 0, 2) || !isIn(f.Type, 0, types-1) || i > 5 {
			return false
		}
		if !impl.GoodName(f.Name) && (f.Name != "" || f.Mark != 0) {
			return false
		}
		for _, other := range fields[:i] {
			if f.Name != "" && other.Name == f.Name {
				return false
			}
		}
	}
	return true
}

// closedWays joins ways that meet until all are there.
func closedWays(l []impl.Type, pointers bool) [][]bool {
	ways := make([][]bool, len(l))
	for n, t := range l {
		ways[n] = make([]bool, len(l))
		if t.Base >= 0 && (pointers || t.Kind != impl.KdPointer) {
			ways[n][t.Base] = true
		}
		for _, f := range t.Fields {
			ways[n][f.Type] = true
		}
	}
	for by := range l {
		for from := range l {
			for to := range l {
				ways[from][to] = ways[from][to] || ways[from][by] && ways[by][to]
			}
		}
	}
	return ways
}

// sizesByRounds tells the sizes of good types: in each round those of which all parts are known.
func sizesByRounds(l []impl.Type) []*big.Int {
	sizes := make([]*big.Int, len(l))
	for range l {
		for n, t := range l {
			switch t.Kind {
			case impl.KdInt:
				sizes[n] = big.NewInt(4)
			case impl.KdBool, impl.KdChar:
				sizes[n] = big.NewInt(1)
			case impl.KdPointer:
				sizes[n] = big.NewInt(8)
			case impl.KdArray:
				if sizes[t.Base] != nil {
					sizes[n] = new(big.Int).Mul(big.NewInt(int64(t.Long)), sizes[t.Base])
				}
			case impl.KdRecord:
				sizes[n] = recordSize(t, sizes)
			}
		}
	}
	return sizes
}

func recordSize(t impl.Type, sizes []*big.Int) *big.Int {
	sum := big.NewInt(0)
	if t.Base >= 0 {
		if sizes[t.Base] == nil {
			return nil
		}
		sum.Add(sum, sizes[t.Base])
	}
	for _, f := range t.Fields {
		if sizes[f.Type] == nil {
			return nil
		}
		sum.Add(sum, sizes[f.Type])
	}
	return sum
}

// allAlike holds all pairs of types alike and takes away those that are not, until none is left to take.
func allAlike(a, b []impl.Type) [][]bool {
	alike := make([][]bool, len(a))
	for x := range a {
		alike[x] = slices.Repeat([]bool{true}, len(b))
	}
	for taken := true; taken; {
		taken = false
		for x := range a {
			for y := range b {
				if alike[x][y] && !stillAlike(a[x], b[y], alike) {
					alike[x][y] = false
					taken = true
				}
			}
		}
	}
	return alike
}

func stillAlike(s, t impl.Type, alike [][]bool) bool {
	if s.Kind != t.Kind || s.Long != t.Long || s.Owner != t.Owner || s.Name != t.Name || len(s.Fields) != len(t.Fields) {
		return false
	}
	if s.Base < 0 != (t.Base < 0) || s.Base >= 0 && !alike[s.Base][t.Base] {
		return false
	}
	for i, f := range s.Fields {
		g := t.Fields[i]
		if f.Name != g.Name || f.Mark != g.Mark || !alike[f.Type][g.Type] {
			return false
		}
	}
	return true
}

func checkSame(t *testing.T, a, b []impl.Type) {
	t.Helper()
	alike := allAlike(a, b)
	for x := range a {
		for y := range b {
			wantSame(t, a, x, b, y, alike[x][y], true)
		}
	}
}

// checkReached asks for all types that are reached from some, and that no more are from these.
func checkReached(t *testing.T, l []impl.Type, from []int, ways [][]bool) {
	t.Helper()
	var want []int
	for n := range l {
		reached := slices.Contains(from, n)
		for _, m := range from {
			reached = reached || ways[m][n]
		}
		if reached {
			want = append(want, n)
		}
	}
	wantReached(t, l, from, want, true)
	wantReached(t, l, want, want, true)
}

func checkRecords(t *testing.T, l []impl.Type, a int) {
	t.Helper()
	isRecord := l[a].Kind == impl.KdRecord
	for b := range l {
		does := false
		for n := a; isRecord && n >= 0; n = l[n].Base {
			does = does || n == b
		}
		wantExtends(t, l, a, b, does, isRecord && l[b].Kind == impl.KdRecord)
	}
	for _, name := range []string{"", "x", "y", "none"} {
		of := -1
		for n := a; isRecord && n >= 0 && of < 0; n = l[n].Base {
			if i := slices.IndexFunc(l[n].Fields, func(f impl.Field) bool { return f.Name == name }); i >= 0 {
				of = l[n].Fields[i].Type
			}
		}
		wantField(t, l, a, name, max(of, 0), of >= 0)
	}
}

// checkTable asks for all that is told of one table.
func checkTable(t *testing.T, l []impl.Type) bool {
	t.Helper()
	m := modelOf(l)
	wantGood(t, l, m.good)
	if !m.good {
		for n := range l {
			wantRound(t, l, n, m.shaped && m.inner[n][n], m.shaped)
			wantSize(t, l, n, 0, false)
			wantReached(t, l, []int{n}, nil, false)
			wantExtends(t, l, n, n, false, false)
			wantField(t, l, n, "x", 0, false)
			wantSame(t, l, n, l, n, false, false)
		}
		return false
	}
	sizes := sizesByRounds(l)
	for n := range l {
		wantRound(t, l, n, false, true)
		if sizes[n].Cmp(big.NewInt(impl.MaxWhole)) <= 0 {
			wantSize(t, l, n, int(sizes[n].Int64()), true)
		} else {
			wantSize(t, l, n, 0, false)
		}
		checkReached(t, l, []int{n}, m.ways)
		checkReached(t, l, numbersOf(l)[:n], m.ways)
		checkReached(t, l, numbersOf(l)[n:], m.ways)
		checkRecords(t, l, n)
	}
	checkSame(t, l, l)
	return true
}

// renumbered tells a table with the types behind the first three in another order, and their numbers.
func renumbered(l []impl.Type, order []int) []impl.Type {
	other := copyOf(l)
	for n, to := range order {
		moved := copyOf(l[n : n+1])[0]
		if moved.Base >= 0 {
			moved.Base = order[moved.Base]
		}
		for i := range moved.Fields {
			moved.Fields[i].Type = order[moved.Fields[i].Type]
		}
		other[to] = moved
	}
	return other
}

// smallTypes are types of tables of at most five, some of which can not be in any.
func smallTypes() []impl.Type {
	var l []impl.Type
	for base := -2; base <= 5; base++ {
		l = append(l, arrayOf(2, base), pointerTo(base), recordOf(base), recordOf(base, field("x", 1, 0)))
	}
	for _, of := range []int{-1, 0, 3, 4, 5} {
		l = append(l, recordOf(-1, field("x", 1, of)), recordOf(3, field("x", 1, of)), recordOf(4, field("", 0, of)),
			recordOf(-1, field("", 0, 1), field("", 0, of)), recordOf(3, field("x", 0, 2), field("y", 0, of)), recordOf(-1, field("x", 0, 4), field("x", 0, of)))
	}
	for _, of := range []int{0, 1, 3, 4} {
		l = append(l, arrayOf(3, of), recordOf(-1, field("x", 2, of)), recordOf(-1, field("y", 0, of)), recordOf(-1, field("", 0, of)),
			recordOf(-1, field("x", 1, of), field("y", 0, 4)), recordOf(4, field("y", 1, of)), calledSo(arrayOf(2, of), "M", "U"))
	}
	l = append(l, calledSo(arrayOf(2, 0), "M", "T"), calledSo(recordOf(-1, field("x", 1, 4)), "M", "T"), calledSo(pointerTo(3), "M", "T"),
		calledSo(pointerTo(3), "M", ""), calledSo(arrayOf(2, 0), "N", "T"), recordOf(-1, field("", 1, 0)), recordOf(-1, field("x", 3, 0)))
	return l
}

// TestAllSmallTables asks for all tables of at most two types behind the first three, each against
// itself, itself in another order, and the good one ahead of it.
func TestAllSmallTables(t *testing.T) {
	ahead := impl.BaseTypes()
	good := 0
	for _, one := range smallTypes() {
		checkTable(t, tableOf(one))
		for _, other := range smallTypes() {
			l := tableOf(one, other)
			if !checkTable(t, l) {
				continue
			}
			good++
			turned := renumbered(l, []int{0, 1, 2, 4, 3})
			checkSame(t, l, turned)
			wantSame(t, l, 3, turned, 4, true, true)
			wantSame(t, l, 4, turned, 3, true, true)
			checkSame(t, l, ahead)
			ahead = l
		}
	}
	if good < 500 {
		t.Error("too few tables are good to tell much", good)
	}
}

// row tells numbers without a plain order, the same ones each time.
type row struct {
	seed uint64
}

func (r *row) below(n int) int {
	r.seed = nextOf(r.seed)
	return int((r.seed >> 20) % uint64(n))
}

// someType tells a type that fits into a table of that many types; what lies within it mostly comes
// behind it, so that few are round.
func (r *row) someType(n, many int) impl.Type {
	inside := func() int {
		if r.below(6) == 0 || n == many-1 {
			return r.below(3)
		}
		return n + 1 + r.below(many-n-1)
	}
	var t impl.Type
	switch r.below(5) {
	case 0:
		t = arrayOf(1+r.below(2)*r.below(1000), inside())
	case 1:
		t = pointerTo(3 + r.below(many-3))
	default:
		t = recordOf(-1)
		if r.below(2) == 0 && n < many-1 {
			t.Base = n + 1 + r.below(many-n-1)
		}
		for i := range r.below(impl.MaxFields + 1) {
			of := inside()
			if r.below(3) == 0 {
				of = r.below(many)
			}
			t.Fields = append(t.Fields, field([]string{"x", "y", "z", "u", "v", "w"}[i], r.below(3), of))
			if r.below(4) == 0 {
				t.Fields[i].Name, t.Fields[i].Mark = "", 0
			}
		}
	}
	if r.below(8) == 0 {
		t = calledSo(t, "M", "T"+string(rune('a'+n)))
	}
	return t
}

// repaired turns a Base of records and pointers that can not be into one that can.
func repaired(l []impl.Type) {
	for n, t := range l {
		if t.Kind == impl.KdRecord && t.Base >= 0 && l[t.Base].Kind != impl.KdRecord {
			l[n].Base = -1
		}
		if t.Kind == impl.KdPointer && l[t.Base].Kind == impl.KdPointer {
			l[n] = impl.Type{Kind: impl.KdArray, Long: 3, Base: 1, Owner: t.Owner, Name: t.Name}
		}
	}
}

func TestManyLargerTables(t *testing.T) {
	r := &row{seed: 1}
	good, round := 0, 0
	for range 500 {
		many := 4 + r.below(impl.MaxTypes-3)
		if r.below(2) == 0 {
			many = 4 + r.below(5)
		}
		l := impl.BaseTypes()
		for n := 3; n < many; n++ {
			l = append(l, r.someType(n, many))
		}
		repaired(l)
		repaired(l)
		if !checkTable(t, l) {
			if shapedByForm(l) {
				round++
			}
			continue
		}
		good++
		order := numbersOf(l)
		for n := 3; n < many; n++ {
			m := n + r.below(many-n)
			order[n], order[m] = order[m], order[n]
		}
		turned := renumbered(l, order)
		for n, to := range order {
			wantSame(t, l, n, turned, to, true, true)
		}
		checkSame(t, l, turned)
	}
	if good < 200 || round < 100 {
		t.Error("too few tables of each sort", good, round)
	}
}

// TestTypesAnswerAnything asks for tables of any length with any numbers in them: a panic fails.
func TestTypesAnswerAnything(t *testing.T) {
	r := &row{seed: 7}
	some := []int{-1 << 63, -1000, -2, -1, 0, 1, 2, 3, 4, 5, 6, 7, 8, 23, 24, 25, 1000, 1001, 1 << 32, 1<<63 - 1}
	texts := []string{"", "x", "INT", "M", "a b", "\xff", "abcdefghijk"}
	any := func() int { return some[r.below(len(some))] }
	for range 4000 {
		l := make([]impl.Type, r.below(30))
		copy(l, impl.BaseTypes())
		for n := range l {
			if n >= 3 || r.below(40) == 0 {
				l[n] = impl.Type{Kind: any(), Long: any(), Base: any(), Owner: texts[r.below(7)], Name: texts[r.below(7)]}
				for range r.below(9) {
					l[n].Fields = append(l[n].Fields, field(texts[r.below(7)], any(), any()))
				}
			}
		}
		checkTable(t, l)
		callAll(l, []int{any(), any(), any()})
		impl.SizeOf(l, any())
		impl.IsRound(l, any())
		impl.Extends(l, any(), any())
		impl.SameTypes(l, any(), tableOf(), any())
		impl.FieldOf(l, any(), texts[r.below(7)])
	}
}
