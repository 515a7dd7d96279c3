package tests

import (
	"math"
	"reflect"
	"slices"
	"strconv"
	"strings"
	"testing"

	"loop.example/g00837/impl"
)

func tableOf(others ...impl.Type) []impl.Type {
	return append(impl.BaseTypes(), others...)
}

func arrayOf(long, base int) impl.Type {
	return impl.Type{Kind: impl.KdArray, Long: long, Base: base}
}

func pointerTo(base int) impl.Type {
	return impl.Type{Kind: impl.KdPointer, Base: base}
}

func recordOf(base int, fields ...impl.Field) impl.Type {
	return impl.Type{Kind: impl.KdRecord, Base: base, Fields: fields}
}

func calledSo(t impl.Type, owner, name string) impl.Type {
	t.Owner, t.Name = owner, name
	return t
}

func field(name string, mark, of int) impl.Field {
	return impl.Field{Name: name, Mark: mark, Type: of}
}

func copyOf(l []impl.Type) []impl.Type {
	other := slices.Clone(l)
	for i := range other {
		other[i].Fields = slices.Clone(other[i].Fields)
	}
	return other
}

// mixedTypes have each kind of type, with names and without, with bases and in a ring of pointers.
func mixedTypes() []impl.Type {
	return tableOf(
		calledSo(recordOf(-1, field("x", impl.MkFull, 0), field("next", impl.MkNone, 4), field("", impl.MkNone, 2)), "A", "R"), // 3
		calledSo(pointerTo(5), "A", "P"),                                    // 4
		recordOf(3, field("y", impl.MkRead, 6), field("x", impl.MkFull, 1)), // 5
		arrayOf(10, 7),                       // 6
		calledSo(arrayOf(1000, 2), "B", "R"), // 7
		pointerTo(6),                         // 8
		recordOf(-1),                         // 9
		recordOf(5, field("", impl.MkNone, 8), field("z", impl.MkNone, 3)), // 10
	)
}

func numbersOf(l []impl.Type) []int {
	var numbers []int
	for n := range l {
		numbers = append(numbers, n)
	}
	return numbers
}

// outsideOf are no numbers of a table's types.
func outsideOf(l []impl.Type) []int {
	return []int{-1, -2, len(l), len(l) + 1, impl.MaxTypes, impl.MaxTypes + 1, 1000, math.MaxInt, math.MinInt, math.MaxInt32 + 1, 1 << 32}
}

func wantGood(t *testing.T, l []impl.Type, good bool) {
	t.Helper()
	if ok := impl.GoodTypes(l); ok != good {
		t.Errorf("GoodTypes(%v) = %v", l, ok)
	}
}

func wantSize(t *testing.T, l []impl.Type, n, size int, good bool) {
	t.Helper()
	if got, ok := impl.SizeOf(l, n); got != size || ok != good {
		t.Errorf("SizeOf(%v, %d) = %d, %v, want %d, %v", l, n, got, ok, size, good)
	}
}

func wantRound(t *testing.T, l []impl.Type, n int, round, good bool) {
	t.Helper()
	if got, ok := impl.IsRound(l, n); got != round || ok != good {
		t.Errorf("IsRound(%v, %d) = %v, %v, want %v, %v", l, n, got, ok, round, good)
	}
}

func wantReached(t *testing.T, l []impl.Type, from, want []int, good bool) {
	t.Helper()
	if got, ok := impl.ReachedOf(l, from); !slices.Equal(got, want) || ok != good {
		t.Errorf("ReachedOf(%v, %v) = %v, %v, want %v, %v", l, from, got, ok, want, good)
	}
}

func wantExtends(t *testing.T, l []impl.Type, a, b int, does, good bool) {
	t.Helper()
	if got, ok := impl.Extends(l, a, b); got != does || ok != good {
		t.Errorf("Extends(%v, %d, %d) = %v, %v, want %v, %v", l, a, b, got, ok, does, good)
	}
}

func wantField(t *testing.T, l []impl.Type, n int, name string, of int, good bool) {
	t.Helper()
	if got, ok := impl.FieldOf(l, n, name); got != of || ok != good {
		t.Errorf("FieldOf(%v, %d, %q) = %d, %v, want %d, %v", l, n, name, got, ok, of, good)
	}
}

// wantSame asks both ways.
func wantSame(t *testing.T, a []impl.Type, x int, b []impl.Type, y int, same, good bool) {
	t.Helper()
	if got, ok := impl.SameTypes(a, x, b, y); got != same || ok != good {
		t.Errorf("SameTypes(%v, %d, %v, %d) = %v, %v, want %v, %v", a, x, b, y, got, ok, same, good)
	}
	if got, ok := impl.SameTypes(b, y, a, x); got != same || ok != good {
		t.Errorf("SameTypes(%v, %d, %v, %d) = %v, %v, want %v, %v", b, y, a, x, got, ok, same, good)
	}
}

func TestTypeConstantsAreAsTold(t *testing.T) {
	if impl.MaxTypes != 24 || impl.MaxFields != 6 {
		t.Error(impl.MaxTypes, impl.MaxFields)
	}
	kinds := []int{impl.KdInt, impl.KdBool, impl.KdChar, impl.KdArray, impl.KdRecord, impl.KdPointer}
	if !slices.Equal(kinds, []int{1, 2, 3, 4, 5, 6}) {
		t.Error(kinds)
	}
	if marks := []int{impl.MkNone, impl.MkFull, impl.MkRead}; !slices.Equal(marks, []int{0, 1, 2}) {
		t.Error(marks)
	}
}

func wantBaseTypes(t *testing.T) {
	t.Helper()
	l := impl.BaseTypes()
	if len(l) != 3 {
		t.Fatal("base types", l)
	}
	for i, name := range []string{"INT", "BOOL", "CHAR"} {
		b := l[i]
		if b.Kind != i+1 || b.Long != 0 || b.Base != -1 || len(b.Fields) != 0 || b.Owner != "" || b.Name != name {
			t.Errorf("base type %d is %v", i, b)
		}
	}
}

func TestBaseTypesAreAsTold(t *testing.T) {
	wantBaseTypes(t)
	l := impl.BaseTypes()
	wantGood(t, l, true)
	for n, size := range []int{4, 1, 1} {
		wantSize(t, l, n, size, true)
		wantRound(t, l, n, false, true)
		wantReached(t, l, []int{n}, []int{n}, true)
		wantExtends(t, l, n, n, false, false)
		wantField(t, l, n, "x", 0, false)
		wantField(t, l, n, "", 0, false)
		for m := range l {
			wantSame(t, l, n, l, m, n == m, true)
			wantSame(t, l, n, mixedTypes(), m, n == m, true)
		}
	}
}

func TestBaseTypesAreNewEachTime(t *testing.T) {
	first := impl.BaseTypes()
	for i := range first {
		first[i] = impl.Type{Kind: 77, Name: "x", Fields: []impl.Field{{Name: "y"}}}
	}
	wantBaseTypes(t)
	second := impl.BaseTypes()
	room := second[:cap(second)]
	clear(room)
	wantBaseTypes(t)
	if one, other := impl.BaseTypes(), impl.BaseTypes(); &one[0] == &other[0] {
		t.Error("two answers share memory")
	}
}

func TestSizesOfTypes(t *testing.T) {
	l := mixedTypes()
	wantGood(t, l, true)
	for n, size := range []int{4, 1, 1, 13, 8, 10014, 10000, 1000, 8, 0, 10035} {
		wantSize(t, l, n, size, true)
	}
	wantSize(t, tableOf(arrayOf(1, 0)), 3, 4, true)
	wantSize(t, tableOf(arrayOf(1000, 0)), 3, 4000, true)
	wantSize(t, tableOf(arrayOf(7, 4), recordOf(-1)), 3, 0, true)
	wantSize(t, tableOf(arrayOf(7, 4), pointerTo(3)), 3, 56, true)
	wantSize(t, tableOf(recordOf(4, field("a", 0, 0)), recordOf(-1, field("a", 0, 2), field("b", 0, 1))), 3, 6, true)
}

// nested tells a table of arrays, each of the next one, the last one of a base type.
func nested(deep, long, last int) []impl.Type {
	l := impl.BaseTypes()
	for i := range deep {
		l = append(l, arrayOf(long, 4+i))
	}
	l[len(l)-1].Base = last
	return l
}

func TestGreatestSizes(t *testing.T) {
	l := nested(3, 1000, 2)
	wantSize(t, l, 3, impl.MaxWhole, true)
	wantSize(t, append(l, recordOf(-1, field("a", 0, 3))), 6, impl.MaxWhole, true)
	wantSize(t, append(l, recordOf(-1, field("a", 0, 3), field("b", 0, 7)), recordOf(-1)), 6, impl.MaxWhole, true)
	wantSize(t, append(l, arrayOf(1, 3)), 6, impl.MaxWhole, true)
	wantSize(t, append(l, arrayOf(2, 3)), 6, 0, false)
	wantSize(t, append(l, recordOf(-1, field("a", 0, 3), field("b", 0, 2))), 6, 0, false)
	wantSize(t, append(l, recordOf(7, field("b", 0, 2)), recordOf(-1, field("a", 0, 3))), 6, 0, false)
	wantSize(t, append(l, pointerTo(7), arrayOf(2, 3)), 6, 8, true)
	wantSize(t, append(l, arrayOf(2, 3)), 4, 1000000, true)
	wantSize(t, nested(3, 1000, 0), 3, 0, false)
	// 512 is a power of two, so that sizes of 64 bits would come to 0, and a thousand comes below it.
	for _, long := range []int{512, 256, 1000, 999} {
		for deep := 4; deep <= impl.MaxTypes-3; deep++ {
			l := nested(deep, long, 0)
			wantGood(t, l, true)
			wantSize(t, l, 3, 0, false)
		}
	}
	if l := nested(21, 1, 0); len(l) != impl.MaxTypes || !impl.GoodTypes(l) {
		t.Fatal("arrays of one")
	} else {
		wantSize(t, l, 3, 4, true)
	}
}

// manyWays tells records of which each has the next one as its Base and in all its Fields, so that
// more ways lead to the last one than can be gone one by one.
func manyWays(last ...impl.Field) []impl.Type {
	l := impl.BaseTypes()
	for len(l) < impl.MaxTypes-1 {
		next := len(l) + 1
		r := recordOf(next)
		for i := range impl.MaxFields {
			r.Fields = append(r.Fields, field("f"+strconv.Itoa(i), impl.MkNone, next))
		}
		l = append(l, r)
	}
	return append(l, recordOf(-1, last...))
}

func TestTypesInVeryManyWays(t *testing.T) {
	empty, full := manyWays(), manyWays(field("x", 0, 0))
	wantGood(t, empty, true)
	wantGood(t, full, true)
	wantSize(t, empty, 3, 0, true)
	wantSize(t, full, 3, 0, false)
	wantSize(t, full, impl.MaxTypes-10, 161414428, true)
	wantSize(t, full, impl.MaxTypes-11, 0, false)
	wantRound(t, full, 3, false, true)
	wantReached(t, full, []int{3}, append([]int{0}, numbersOf(full)[3:]...), true)
	wantReached(t, empty, []int{3}, numbersOf(empty)[3:], true)
	wantExtends(t, full, 3, impl.MaxTypes-1, true, true)
	wantField(t, full, 3, "x", 0, true)
	wantField(t, full, 3, "f5", 4, true)
	wantField(t, full, 3, "f6", 0, false)
	wantSame(t, full, 3, full, 3, true, true)
	wantSame(t, full, 3, copyOf(full), 3, true, true)
	wantSame(t, full, 3, empty, 3, false, true)
	wantSame(t, full, 3, full, 4, false, true)
	back := copyOf(full)
	back[impl.MaxTypes-1].Base = 3
	wantGood(t, back, false)
	for n := range back {
		wantRound(t, back, n, n >= 3, true)
	}
}

func TestHowManyTypes(t *testing.T) {
	for n := range 3 {
		l := impl.BaseTypes()[:n]
		wantGood(t, l, false)
		wantZeroAnswers(t, l, true)
	}
	l := impl.BaseTypes()
	for len(l) < impl.MaxTypes {
		wantGood(t, l, true)
		wantSize(t, l, len(l)-1, []int{4, 1, 1, 5}[min(len(l)-1, 3)], true)
		l = append(l, arrayOf(5, 1))
	}
	wantGood(t, l, true)
	wantSize(t, l, impl.MaxTypes-1, 5, true)
	wantReached(t, l, numbersOf(l), numbersOf(l), true)
	l = append(l, arrayOf(5, 1))
	wantGood(t, l, false)
	wantZeroAnswers(t, l, true)
}

func TestHowManyFields(t *testing.T) {
	var fields []impl.Field
	for i := range impl.MaxFields {
		wantGood(t, tableOf(recordOf(-1, fields...)), true)
		fields = append(fields, field("f"+strconv.Itoa(i), i%3, i%3))
	}
	l := tableOf(recordOf(-1, fields...), recordOf(3, fields...))
	wantGood(t, l, true)
	wantSize(t, l, 4, 24, true)
	wantField(t, l, 3, "f5", 2, true)
	for _, more := range []impl.Field{field("more", 0, 0), field("", 0, 0)} {
		l := tableOf(recordOf(-1, append(slices.Clone(fields), more)...))
		wantGood(t, l, false)
		wantZeroAnswers(t, l, true)
	}
	nameless := slices.Repeat([]impl.Field{{}}, impl.MaxFields)
	wantSize(t, tableOf(recordOf(-1, nameless...)), 3, 24, true)
	wantGood(t, tableOf(recordOf(-1, append(nameless, impl.Field{})...)), false)
}

func TestNamesAndOwnersOfTypes(t *testing.T) {
	for _, name := range goodNames {
		wantGood(t, tableOf(calledSo(arrayOf(2, 0), "M", name)), true)
		wantGood(t, tableOf(calledSo(arrayOf(2, 0), name, "T")), true)
		wantGood(t, tableOf(calledSo(arrayOf(2, 0), name, name)), true)
		wantGood(t, tableOf(calledSo(arrayOf(2, 0), "", name)), false)
		wantGood(t, tableOf(calledSo(arrayOf(2, 0), name, "")), false)
	}
	for _, name := range badNames {
		wantGood(t, tableOf(calledSo(arrayOf(2, 0), "M", name)), false)
		wantGood(t, tableOf(calledSo(arrayOf(2, 0), name, "T")), false)
		wantGood(t, tableOf(calledSo(recordOf(-1), name, name)), name == "")
	}
	for _, kind := range []impl.Type{arrayOf(2, 0), recordOf(-1), pointerTo(3)} {
		r := calledSo(recordOf(-1), "M", "T")
		wantGood(t, tableOf(r, calledSo(kind, "M", "T")), false)
		wantGood(t, tableOf(r, recordOf(-1), calledSo(kind, "M", "T")), false)
		wantGood(t, tableOf(r, calledSo(kind, "M", "U")), true)
		wantGood(t, tableOf(r, calledSo(kind, "N", "T")), true)
		wantGood(t, tableOf(r, calledSo(kind, "T", "M")), true)
		wantGood(t, tableOf(r, calledSo(kind, "m", "T")), true)
		wantGood(t, tableOf(r, calledSo(kind, "", "INT")), false)
		wantGood(t, tableOf(r, kind, kind, kind), true)
	}
	wantGood(t, tableOf(calledSo(recordOf(-1), "Ab", "c"), calledSo(recordOf(-1), "A", "bc")), true)
}

func TestNamesOfFields(t *testing.T) {
	for _, name := range goodNames {
		for _, mark := range []int{impl.MkNone, impl.MkFull, impl.MkRead} {
			wantGood(t, tableOf(recordOf(-1, field(name, mark, 0))), true)
		}
		wantGood(t, tableOf(recordOf(-1, field(name, 0, 0), field(name, 1, 1))), false)
		wantGood(t, tableOf(recordOf(-1, field(name, 0, 0), field("other", 0, 0), field(name, 0, 0))), false)
		wantGood(t, tableOf(recordOf(-1, field(name, 0, 0)), recordOf(3, field(name, 0, 0))), true)
	}
	for _, name := range badNames {
		wantGood(t, tableOf(recordOf(-1, field(name, impl.MkNone, 0))), name == "")
		wantGood(t, tableOf(recordOf(-1, field(name, impl.MkFull, 0))), false)
		wantGood(t, tableOf(recordOf(-1, field(name, impl.MkRead, 0))), false)
	}
	wantGood(t, tableOf(recordOf(-1, field("", 0, 0), field("a", 1, 0), field("", 0, 1), field("", 0, 0))), true)
	wantGood(t, tableOf(recordOf(-1, field("", 0, 0), field("", 1, 0))), false)
}

func TestMarksOfFields(t *testing.T) {
	for mark := -3; mark <= 6; mark++ {
		wantGood(t, tableOf(recordOf(-1, field("a", mark, 0))), mark >= 0 && mark <= 2)
		wantGood(t, tableOf(recordOf(-1, field("b", 0, 0), field("a", mark, 0))), mark >= 0 && mark <= 2)
		wantGood(t, tableOf(recordOf(-1, field("", mark, 0))), mark == 0)
	}
	for _, mark := range []int{math.MaxInt, math.MinInt, 256, 1 << 32} {
		wantGood(t, tableOf(recordOf(-1, field("a", mark, 0))), false)
		wantGood(t, tableOf(recordOf(-1, field("", mark, 0))), false)
	}
}

func TestLongOfTypes(t *testing.T) {
	for _, long := range []int{1, 2, 999, 1000} {
		wantGood(t, tableOf(arrayOf(long, 0)), true)
	}
	for _, long := range []int{0, -1, 1001, math.MaxInt, math.MinInt, 1 << 32} {
		wantGood(t, tableOf(arrayOf(long, 0)), false)
	}
	for _, long := range []int{1, -1, 1000, math.MaxInt, math.MinInt} {
		r, p := recordOf(-1), pointerTo(3)
		r.Long, p.Long = long, long
		wantGood(t, tableOf(r), false)
		wantGood(t, tableOf(recordOf(-1), p), false)
	}
}

// TestBasesOfTypes asks for each kind of Base of each kind of type.
func TestBasesOfTypes(t *testing.T) {
	for base := -2; base <= 9; base++ {
		parts := []impl.Type{recordOf(-1), arrayOf(2, 0), pointerTo(3), pointerTo(4)}
		isType := base >= 0 && base <= 7
		wantGood(t, tableOf(append(parts, arrayOf(3, base))...), isType && base != 7)
		wantGood(t, tableOf(append(parts, recordOf(base))...), base == 3 || base == -1)
		wantGood(t, tableOf(append(parts, pointerTo(base))...), base == 3 || base == 4)
		wantGood(t, tableOf(append(parts, recordOf(-1, field("a", 1, base)))...), isType && base != 7)
	}
	for _, base := range []int{-2, -3, 5, 24, math.MaxInt, math.MinInt, 1 << 32} {
		wantGood(t, tableOf(recordOf(-1), arrayOf(3, base)), false)
		wantGood(t, tableOf(recordOf(-1), recordOf(base)), false)
		wantGood(t, tableOf(recordOf(-1), pointerTo(base)), false)
		wantGood(t, tableOf(recordOf(-1), recordOf(-1, field("a", 0, base))), false)
	}
	wantGood(t, tableOf(arrayOf(3, -1)), false)
	wantGood(t, tableOf(recordOf(-1), pointerTo(-1)), false)
}

// roundTypes are good but for round ones; told is which numbers are round.
var roundTypes = []struct {
	others []impl.Type
	told   []int
}{
	{[]impl.Type{arrayOf(1, 3)}, []int{3}},
	{[]impl.Type{recordOf(3)}, []int{3}},
	{[]impl.Type{recordOf(-1, field("a", 0, 3))}, []int{3}},
	{[]impl.Type{recordOf(-1, field("a", 0, 0), field("", 0, 1), field("b", 2, 3))}, []int{3}},
	{[]impl.Type{recordOf(4), recordOf(3)}, []int{3, 4}},
	{[]impl.Type{recordOf(4), recordOf(4)}, []int{4}},
	{[]impl.Type{arrayOf(2, 4), arrayOf(2, 3)}, []int{3, 4}},
	{[]impl.Type{arrayOf(2, 4), recordOf(-1, field("a", 0, 3))}, []int{3, 4}},
	{[]impl.Type{recordOf(4, field("a", 0, 0)), recordOf(-1, field("", 0, 5)), arrayOf(9, 3)}, []int{3, 4, 5}},
	{[]impl.Type{recordOf(-1, field("a", 0, 4)), recordOf(-1, field("a", 0, 5)), recordOf(-1, field("a", 0, 4))}, []int{4, 5}},
	{[]impl.Type{pointerTo(4), arrayOf(2, 4)}, []int{4}},
	{[]impl.Type{recordOf(-1, field("a", 0, 3)), recordOf(4), recordOf(-1)}, []int{3, 4}},
	{[]impl.Type{recordOf(-1, field("a", 0, 4), field("b", 0, 5)), pointerTo(3), arrayOf(3, 3)}, []int{3, 5}},
}

func TestRoundTypes(t *testing.T) {
	for _, w := range roundTypes {
		l := tableOf(w.others...)
		wantGood(t, l, false)
		for n := range l {
			wantRound(t, l, n, slices.Contains(w.told, n), true)
		}
		for _, n := range outsideOf(l) {
			wantRound(t, l, n, false, false)
		}
		wantZeroAnswers(t, l, false)
	}
}

func TestRoundTypesOverAll(t *testing.T) {
	for _, of := range []func(int) impl.Type{
		func(next int) impl.Type { return arrayOf(1, next) },
		func(next int) impl.Type { return recordOf(next) },
		func(next int) impl.Type { return recordOf(-1, field("a", 0, next)) },
	} {
		l := impl.BaseTypes()
		for len(l) < impl.MaxTypes {
			l = append(l, of(len(l)+1))
		}
		l[impl.MaxTypes-1] = of(3)
		wantGood(t, l, false)
		for n := range l {
			wantRound(t, l, n, n >= 3, true)
		}
		l[impl.MaxTypes-1] = of(impl.MaxTypes - 1)
		wantGood(t, l, false)
		for n := range l {
			wantRound(t, l, n, n == impl.MaxTypes-1, true)
		}
		wantZeroAnswers(t, l, false)
		l[impl.MaxTypes-1] = recordOf(-1)
		wantGood(t, l, true)
	}
}

func TestPointersComeBackAndAreNotRound(t *testing.T) {
	for _, l := range [][]impl.Type{
		tableOf(recordOf(-1, field("next", 0, 4)), pointerTo(3)),
		tableOf(arrayOf(2, 4), pointerTo(3)),
		tableOf(recordOf(4, field("a", 0, 5)), recordOf(-1, field("b", 0, 5)), pointerTo(3)),
		tableOf(recordOf(-1, field("a", 0, 4)), arrayOf(2, 5), pointerTo(6), recordOf(3)),
		mixedTypes(),
	} {
		wantGood(t, l, true)
		for n := range l {
			wantRound(t, l, n, false, true)
		}
	}
	wantSize(t, tableOf(arrayOf(2, 4), pointerTo(3)), 3, 16, true)
	wantSize(t, tableOf(arrayOf(2, 4), pointerTo(3)), 4, 8, true)
	wantReached(t, tableOf(arrayOf(2, 4), pointerTo(3)), []int{3}, []int{3, 4}, true)
}

func TestReachedTypes(t *testing.T) {
	l := mixedTypes()
	all := numbersOf(l)
	wantReached(t, l, nil, nil, true)
	wantReached(t, l, []int{}, nil, true)
	wantReached(t, l, []int{0}, []int{0}, true)
	wantReached(t, l, []int{0, 1, 2}, []int{0, 1, 2}, true)
	wantReached(t, l, []int{3}, []int{0, 1, 2, 3, 4, 5, 6, 7}, true)
	wantReached(t, l, []int{4}, []int{0, 1, 2, 3, 4, 5, 6, 7}, true)
	wantReached(t, l, []int{6}, []int{2, 6, 7}, true)
	wantReached(t, l, []int{1, 8}, []int{1, 2, 6, 7, 8}, true)
	wantReached(t, l, []int{9}, []int{9}, true)
	wantReached(t, l, []int{7, 9}, []int{2, 7, 9}, true)
	wantReached(t, l, []int{10}, []int{0, 1, 2, 3, 4, 5, 6, 7, 8, 10}, true)
	wantReached(t, l, all, all, true)
}

func TestNumbersThatDoNotRise(t *testing.T) {
	l := mixedTypes()
	for _, from := range [][]int{
		{0, 0}, {3, 3}, {4, 3}, {1, 0}, {0, 2, 1}, {0, 1, 1, 2}, {10, 0}, {2, 3, 4, 3}, {3, 4, 5, 5},
		append(numbersOf(l), 10), append([]int{0}, numbersOf(l)...), slices.Repeat([]int{3}, 1000),
	} {
		wantReached(t, l, from, nil, false)
	}
	for _, n := range outsideOf(l) {
		wantReached(t, l, []int{n}, nil, false)
		wantReached(t, l, []int{3, n}, nil, false)
		wantReached(t, l, []int{n, 3}, nil, false)
		wantReached(t, l, []int{n, n + 1}, nil, false)
	}
	wantReached(t, l, append(numbersOf(l), len(l)), nil, false)
	wantReached(t, l, append([]int{-1}, numbersOf(l)...), nil, false)
}

func TestRecordsThatExtend(t *testing.T) {
	l := tableOf(recordOf(4), recordOf(6), recordOf(4), recordOf(-1), recordOf(-1), arrayOf(2, 3), pointerTo(3))
	does := map[int][]int{3: {3, 4, 6}, 4: {4, 6}, 5: {4, 5, 6}, 6: {6}, 7: {7}}
	for a := range l {
		for b := range l {
			records := a >= 3 && a <= 7 && b >= 3 && b <= 7
			wantExtends(t, l, a, b, slices.Contains(does[a], b), records)
		}
		for _, b := range outsideOf(l) {
			wantExtends(t, l, a, b, false, false)
			wantExtends(t, l, b, a, false, false)
			wantExtends(t, l, b, b, false, false)
		}
	}
	// A record of a Field of another one does not extend it.
	wantExtends(t, tableOf(recordOf(-1, field("a", 0, 4)), recordOf(-1)), 3, 4, false, true)
}

func TestFieldsOfRecords(t *testing.T) {
	l := mixedTypes()
	wantField(t, l, 3, "x", 0, true)
	wantField(t, l, 3, "next", 4, true)
	wantField(t, l, 3, "y", 0, false)
	wantField(t, l, 5, "x", 1, true)
	wantField(t, l, 5, "y", 6, true)
	wantField(t, l, 5, "next", 4, true)
	wantField(t, l, 10, "x", 1, true)
	wantField(t, l, 10, "z", 3, true)
	wantField(t, l, 10, "next", 4, true)
	wantField(t, l, 9, "x", 0, false)
	// Fields without a Name are found by the empty text, the record's own ahead of others.
	wantField(t, l, 3, "", 2, true)
	wantField(t, l, 5, "", 2, true)
	wantField(t, l, 10, "", 8, true)
	wantField(t, l, 9, "", 0, false)
	wantField(t, tableOf(recordOf(-1, field("a", 1, 0), field("", 0, 2), field("", 0, 1))), 3, "", 2, true)
	for _, name := range append(badNames, "X", "Next", "nex", "next ", "R", "INT", strings.Repeat("x", 100000)) {
		if name != "" {
			wantField(t, l, 10, name, 0, false)
		}
	}
	for _, n := range []int{0, 1, 2, 4, 6, 7, 8} {
		wantField(t, l, n, "x", 0, false)
		wantField(t, l, n, "", 0, false)
	}
	for _, n := range outsideOf(l) {
		wantField(t, l, n, "x", 0, false)
		wantField(t, l, n, "", 0, false)
	}
}

// TestTypesThatAreNotAlike changes one thing at a time in a type that is otherwise the same.
func TestTypesThatAreNotAlike(t *testing.T) {
	of := func(r impl.Type) []impl.Type {
		return tableOf(r, recordOf(-1), recordOf(-1, field("a", 0, 0)), arrayOf(2, 0), arrayOf(3, 0), recordOf(-1))
	}
	r := calledSo(recordOf(4, field("x", 1, 0), field("y", 2, 6), field("", 0, 1)), "A", "R")
	wantSame(t, of(r), 3, of(r), 3, true, true)
	alike := calledSo(recordOf(8, field("x", 1, 0), field("y", 2, 6), field("", 0, 1)), "A", "R")
	wantSame(t, of(r), 3, of(alike), 3, true, true)
	for _, other := range []impl.Type{
		calledSo(r, "B", "R"), calledSo(r, "A", "S"), calledSo(r, "", ""), calledSo(r, "R", "A"),
		calledSo(recordOf(-1, r.Fields...), "A", "R"),
		calledSo(recordOf(5, r.Fields...), "A", "R"),
		calledSo(recordOf(4, r.Fields[:2]...), "A", "R"),
		calledSo(recordOf(4, r.Fields[0], r.Fields[1], r.Fields[2], r.Fields[2]), "A", "R"),
		calledSo(recordOf(4, r.Fields[1], r.Fields[0], r.Fields[2]), "A", "R"),
		calledSo(recordOf(4, field("X", 1, 0), r.Fields[1], r.Fields[2]), "A", "R"),
		calledSo(recordOf(4, field("x", 0, 0), r.Fields[1], r.Fields[2]), "A", "R"),
		calledSo(recordOf(4, field("x", 2, 0), r.Fields[1], r.Fields[2]), "A", "R"),
		calledSo(recordOf(4, field("x", 1, 2), r.Fields[1], r.Fields[2]), "A", "R"),
		calledSo(recordOf(4, r.Fields[0], field("y", 2, 7), r.Fields[2]), "A", "R"),
		calledSo(recordOf(4, r.Fields[0], r.Fields[1], field("z", 0, 1)), "A", "R"),
		calledSo(recordOf(4, r.Fields[0], r.Fields[1], field("", 0, 2)), "A", "R"),
		calledSo(recordOf(4), "A", "R"), calledSo(arrayOf(1, 4), "A", "R"), calledSo(pointerTo(4), "A", "R"),
	} {
		wantGood(t, of(other), true)
		wantSame(t, of(r), 3, of(other), 3, false, true)
		wantSame(t, of(other), 3, of(other), 3, true, true)
	}
	l := tableOf(arrayOf(2, 0), arrayOf(3, 0), arrayOf(2, 1), arrayOf(2, 0), pointerTo(3), pointerTo(6), pointerTo(4), recordOf(-1), pointerTo(10))
	for x := range l {
		for y := range l {
			same := x == y || x == 3 && y == 6 || x == 6 && y == 3 || x == 7 && y == 8 || x == 8 && y == 7
			wantSame(t, l, x, l, y, same, true)
		}
	}
}

func TestTypesThatNameOneAnother(t *testing.T) {
	l := tableOf(recordOf(-1, field("next", 0, 4)), pointerTo(3), recordOf(-1, field("next", 0, 6)), pointerTo(5))
	wantSame(t, l, 3, l, 5, true, true)
	wantSame(t, l, 4, l, 6, true, true)
	wantSame(t, l, 3, l, 4, false, true)
	// A ring of four is a ring of two gone round twice.
	twice := tableOf(pointerTo(5), recordOf(-1, field("next", 0, 3)), recordOf(-1, field("next", 0, 6)), pointerTo(4))
	wantSame(t, l, 3, twice, 4, true, true)
	wantSame(t, l, 3, twice, 5, true, true)
	wantSame(t, l, 4, twice, 3, true, true)
	wantSame(t, twice, 3, twice, 6, true, true)
	// What is otherwise at one place in the ring only makes all of it unlike.
	other := copyOf(twice)
	other[4].Fields[0].Mark = impl.MkFull
	for _, n := range []int{3, 4, 5, 6} {
		wantSame(t, l, 3+n%2, other, n, false, true)
		wantSame(t, l, 4-n%2, other, n, false, true)
		wantSame(t, other, n, other, n, true, true)
	}
	wantSame(t, other, 3, other, 6, false, true)
	named := copyOf(l)
	named[3] = calledSo(named[3], "M", "T")
	wantSame(t, l, 3, named, 3, false, true)
	wantSame(t, l, 4, named, 4, false, true)
	wantSame(t, l, 3, named, 5, true, true)
}

// A pair that was held in a part that comes first must not hide that it is unlike in the end.
func TestWhatIsHeldIsLookedAtAll(t *testing.T) {
	of := func(mark int) []impl.Type {
		return tableOf(
			recordOf(-1, field("a", 0, 4), field("b", 0, 6)),
			pointerTo(5),
			recordOf(-1, field("c", 0, 4), field("d", 0, 6)),
			pointerTo(7),
			recordOf(-1, field("e", 0, 4), field("f", mark, 0)),
		)
	}
	for n := 3; n <= 7; n++ {
		wantSame(t, of(1), n, of(1), n, true, true)
		wantSame(t, of(1), n, of(2), n, false, true)
	}
}

func TestNumbersOutsideOfTables(t *testing.T) {
	l := mixedTypes()
	for _, n := range outsideOf(l) {
		wantSize(t, l, n, 0, false)
		wantRound(t, l, n, false, false)
		for m := range l {
			wantSame(t, l, n, l, m, false, false)
			wantSame(t, l, m, tableOf(), n, false, false)
		}
		wantSame(t, l, n, l, n, false, false)
	}
	wantSame(t, l, 3, tableOf(), 3, false, false)
	wantSame(t, l, 2, tableOf(), 2, true, true)
}

// wantZeroAnswers asks for types that are not good; of IsRound only where they are not good otherwise.
func wantZeroAnswers(t *testing.T, l []impl.Type, round bool) {
	t.Helper()
	good := mixedTypes()
	for n := -2; n <= len(l)+1; n++ {
		wantSize(t, l, n, 0, false)
		wantReached(t, l, []int{n}, nil, false)
		wantField(t, l, n, "x", 0, false)
		wantField(t, l, n, "", 0, false)
		wantSame(t, l, n, l, n, false, false)
		wantSame(t, good, 0, l, n, false, false)
		wantSame(t, good, 3, l, n, false, false)
		for m := -1; m <= len(l); m++ {
			wantExtends(t, l, n, m, false, false)
		}
		if round {
			wantRound(t, l, n, false, false)
		}
	}
	wantReached(t, l, nil, nil, false)
	wantReached(t, l, numbersOf(l), nil, false)
}

// badTables tell each way in which types may not be good but by round ones.
func badTables() [][]impl.Type {
	some := []impl.Field{field("a", 0, 0)}
	var tables [][]impl.Type
	for _, change := range []func(l []impl.Type){
		func(l []impl.Type) { l[0].Kind = impl.KdBool },
		func(l []impl.Type) { l[1].Kind = 0 },
		func(l []impl.Type) { l[2].Kind = impl.KdRecord },
		func(l []impl.Type) { l[0], l[1] = l[1], l[0] },
		func(l []impl.Type) { l[1], l[2] = l[2], l[1] },
		func(l []impl.Type) { l[0].Name = "INTS" },
		func(l []impl.Type) { l[1].Name = "" },
		func(l []impl.Type) { l[2].Name = "char" },
		func(l []impl.Type) { l[0].Owner = "A" },
		func(l []impl.Type) { l[2].Owner = "CHAR" },
		func(l []impl.Type) { l[0].Long = 1 },
		func(l []impl.Type) { l[1].Long = -1 },
		func(l []impl.Type) { l[0].Base = 0 },
		func(l []impl.Type) { l[1].Base = -2 },
		func(l []impl.Type) { l[2].Base = 3 },
		func(l []impl.Type) { l[0].Fields = some },
		func(l []impl.Type) { l[2].Fields = some },
		func(l []impl.Type) { l[9] = l[0] },
		func(l []impl.Type) { l[9] = l[2] },
		func(l []impl.Type) { l[9] = impl.Type{} },
		func(l []impl.Type) { l[9].Kind = impl.KdPointer + 1 },
		func(l []impl.Type) { l[9].Kind = -1 },
		func(l []impl.Type) { l[9].Kind = math.MinInt },
		func(l []impl.Type) { l[9].Kind = 256 + impl.KdRecord },
		func(l []impl.Type) { l[9].Long = 1 },
		func(l []impl.Type) { l[9].Base = 0 },
		func(l []impl.Type) { l[9].Base = 4 },
		func(l []impl.Type) { l[9].Base = 6 },
		func(l []impl.Type) { l[9].Base = -2 },
		func(l []impl.Type) { l[9].Base = len(l) },
		func(l []impl.Type) { l[9].Base = math.MaxInt },
		func(l []impl.Type) { l[9].Name = "T" },
		func(l []impl.Type) { l[9].Owner = "M" },
		func(l []impl.Type) { l[9].Owner, l[9].Name = "1", "T" },
		func(l []impl.Type) { l[9].Owner, l[9].Name = "M", "T-" },
		func(l []impl.Type) { l[9].Owner, l[9].Name = "A", "R" },
		func(l []impl.Type) { l[9].Fields = slices.Repeat([]impl.Field{{}}, impl.MaxFields+1) },
		func(l []impl.Type) { l[9].Fields = make([]impl.Field, 100000) },
		func(l []impl.Type) { l[9].Fields = []impl.Field{field("a", 0, 0), field("a", 0, 0)} },
		func(l []impl.Type) { l[9].Fields = []impl.Field{field("", 1, 0)} },
		func(l []impl.Type) { l[9].Fields = []impl.Field{field("a", 3, 0)} },
		func(l []impl.Type) { l[9].Fields = []impl.Field{field("a", -1, 0)} },
		func(l []impl.Type) { l[9].Fields = []impl.Field{field("a", 0, -1)} },
		func(l []impl.Type) { l[9].Fields = []impl.Field{field("a", 0, len(l))} },
		func(l []impl.Type) { l[9].Fields = []impl.Field{field("a", 0, math.MaxInt)} },
		func(l []impl.Type) { l[9].Fields = []impl.Field{field("a", 0, math.MinInt)} },
		func(l []impl.Type) { l[9].Fields = []impl.Field{field("a b", 0, 0)} },
		func(l []impl.Type) { l[6].Long = 0 },
		func(l []impl.Type) { l[6].Long = 1001 },
		func(l []impl.Type) { l[6].Base = -1 },
		func(l []impl.Type) { l[6].Base = len(l) },
		func(l []impl.Type) { l[6].Fields = some },
		func(l []impl.Type) { l[8].Base = -1 },
		func(l []impl.Type) { l[8].Base = 0 },
		func(l []impl.Type) { l[8].Base = 4 },
		func(l []impl.Type) { l[8].Base = 8 },
		func(l []impl.Type) { l[8].Base = len(l) },
		func(l []impl.Type) { l[8].Long = 1 },
		func(l []impl.Type) { l[8].Fields = some },
	} {
		l := mixedTypes()
		change(l)
		tables = append(tables, l)
	}
	return append(tables, nil, []impl.Type{}, make([]impl.Type, 3), make([]impl.Type, 100), make([]impl.Type, impl.MaxTypes))
}

func TestTypesThatAreNotGood(t *testing.T) {
	for i, l := range badTables() {
		if impl.GoodTypes(l) {
			t.Errorf("bad table %d is good", i)
		}
		wantZeroAnswers(t, l, true)
	}
	long := tableOf(slices.Repeat([]impl.Type{recordOf(-1)}, 100000)...)
	wantGood(t, long, false)
	if n, ok := impl.SizeOf(long, 3); n != 0 || ok {
		t.Error("size in a table that is far too long", n, ok)
	}
}

func TestOthersHaveNoFieldsButMayHaveEmptyOnes(t *testing.T) {
	l := mixedTypes()
	for i := range l {
		if l[i].Fields == nil {
			l[i].Fields = []impl.Field{}
		}
	}
	wantGood(t, l, true)
	for n := range l {
		wantSame(t, l, n, mixedTypes(), n, true, true)
	}
}

// callAll calls each function that takes types with what may be as said and what may not.
func callAll(l []impl.Type, numbers []int) {
	impl.GoodTypes(l)
	impl.ReachedOf(l, numbers)
	for _, n := range append([]int{-1, len(l)}, numbersOf(l)[:min(len(l), 30)]...) {
		impl.SizeOf(l, n)
		impl.IsRound(l, n)
		impl.FieldOf(l, n, "x")
		for _, m := range []int{-1, 0, 3, 5, n} {
			impl.Extends(l, n, m)
			impl.SameTypes(l, n, l, m)
		}
	}
}

func TestTypesAreNotWrittenInto(t *testing.T) {
	tables := append(badTables(), mixedTypes(), manyWays(), impl.BaseTypes())
	for _, w := range roundTypes {
		tables = append(tables, tableOf(w.others...))
	}
	for i, l := range tables {
		for _, numbers := range [][]int{{0, 3, 5}, {5, 3, 0}, {3}, nil} {
			before, kept := copyOf(l), slices.Clone(numbers)
			callAll(l, numbers)
			if !reflect.DeepEqual(l, before) || !slices.Equal(numbers, kept) {
				t.Fatalf("table %d, or %v, is written into", i, kept)
			}
		}
	}
}

// TestWhatLiesBehindTypes lays a table, its fields and the numbers into memory that goes on behind.
func TestWhatLiesBehindTypes(t *testing.T) {
	far := field("z", 9, 99)
	fields := []impl.Field{far, field("x", 0, 0), field("y", 0, 1), far, far}
	numbers := []int{7, 3, 4, 0, 9, 9}
	room := append(tableOf(recordOf(-1), arrayOf(2, 3)), impl.Type{Kind: 55, Base: 44}, recordOf(-1))
	room[3].Fields = fields[1:3]
	keptFields, keptNumbers, keptRoom := slices.Clone(fields), slices.Clone(numbers), slices.Clone(room)
	l := room[:5]
	wantGood(t, l, true)
	wantGood(t, room, false)
	wantSize(t, l, 4, 10, true)
	wantField(t, l, 3, "z", 0, false)
	wantReached(t, l, numbers[1:3], []int{0, 1, 3, 4}, true)
	wantSame(t, l, 4, copyOf(l), 4, true, true)
	wantSize(t, l, 6, 0, false)
	callAll(l, numbers[1:3])
	if !slices.Equal(fields, keptFields) || !slices.Equal(numbers, keptNumbers) || !reflect.DeepEqual(room, keptRoom) {
		t.Error("what lies behind is written into")
	}
}

func TestReachedNumbersAreNewMemory(t *testing.T) {
	l := mixedTypes()
	from := numbersOf(l)
	first, _ := impl.ReachedOf(l, from)
	second, _ := impl.ReachedOf(l, from)
	for i := range first {
		first[i] = -7
	}
	clear(first[:cap(first)])
	if !slices.Equal(from, numbersOf(l)) || !slices.Equal(second, from) {
		t.Error("the answer shares memory", from, second)
	}
	alone := []int{9}
	only, ok := impl.ReachedOf(l, alone)
	if !ok || len(only) != 1 || &only[0] == &alone[0] {
		t.Error("the answer is the argument")
	}
}
