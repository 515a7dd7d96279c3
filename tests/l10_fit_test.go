package tests

import (
	"math"
	"reflect"
	"slices"
	"strconv"
	"strings"
	"testing"

	"loop.example/g00837/impl"
)

// fitTypes have types of each kind that are alike, and records that extend one another.
func fitTypes() []impl.Type {
	return tableOf(
		recordOf(-1),                      // 3
		recordOf(3),                       // 4
		recordOf(4),                       // 5
		recordOf(3),                       // 6, as 4 is
		recordOf(-1),                      // 7, as 3 is
		pointerTo(3),                      // 8
		pointerTo(3),                      // 9
		pointerTo(4),                      // 10
		pointerTo(5),                      // 11
		pointerTo(7),                      // 12
		calledSo(pointerTo(3), "M", "P"),  // 13
		arrayOf(2, 0),                     // 14
		arrayOf(2, 0),                     // 15
		arrayOf(3, 0),                     // 16
		arrayOf(2, 1),                     // 17
		calledSo(arrayOf(2, 4), "M", "A"), // 18
		calledSo(arrayOf(2, 3), "M", "B"), // 19
		arrayOf(2, 7),                     // 20
		pointerTo(14),                     // 21
		pointerTo(14),                     // 22
		calledSo(pointerTo(15), "N", "P"), // 23
	)
}

// pairsThatFit are all pairs of fitTypes, what is there and what may be put there, but a type and itself.
var pairsThatFit = map[[2]int]bool{
	{3, 4}: true, {3, 5}: true, {3, 6}: true, {4, 5}: true,
	{8, 9}: true, {8, 10}: true, {8, 11}: true, {8, 13}: true,
	{9, 8}: true, {9, 10}: true, {9, 11}: true, {9, 13}: true,
	{13, 8}: true, {13, 9}: true, {13, 10}: true, {13, 11}: true,
	{10, 11}: true,
	{14, 15}: true, {15, 14}: true,
	{21, 22}: true, {22, 21}: true,
}

func TestWhatMayBePut(t *testing.T) {
	l := fitTypes()
	wantGood(t, l, true)
	for to := range l {
		for from := range l {
			wantPut(t, l, to, from, to == from || pairsThatFit[[2]int{to, from}], true)
		}
	}
	checkFit(t, l)
	// What fits is not what a type of the same Kind is made of, but what it is.
	others := tableOf(recordOf(-1, field("a", 1, 0)), recordOf(-1, field("a", 1, 0)), recordOf(-1, field("a", 1, 0), field("b", 1, 0)), recordOf(-1, field("r", 1, 3)),
		arrayOf(1, 0), arrayOf(1, 3), arrayOf(1000, 8), arrayOf(999, 8), arrayOf(1000, 8), arrayOf(2, 7), arrayOf(2, 7))
	for to := range others {
		for from := range others {
			fits := to == from || to == 9 && from == 11 || to == 11 && from == 9 || to == 12 && from == 13 || to == 13 && from == 12
			wantPut(t, others, to, from, fits, true)
		}
	}
}

// TestWhatMayBePutOfAText asks for the types of a module as Compile numbers them.
func TestWhatMayBePutOfAText(t *testing.T) {
	s := scopeIn(t, "MODULE A; TYPE R* = RECORD x*: INT; next: POINTER TO R END; TYPE S* = RECORD (R) b: BOOL; n: INT END; TYPE P* = POINTER TO R; TYPE Q* = POINTER TO S; TYPE V = ARRAY 3 OF P; TYPE W = ARRAY 3 OF P; TYPE X = ARRAY 3 OF Q; PROC do (VAR r: R; v: V; p: P); PROC run (r: R): INT; PROC end (); END A.", nil)
	of := func(name string) int {
		n, _ := impl.ObjectAt(s, name)
		return s.Objects[n].Type
	}
	for _, w := range []struct {
		to, from string
		may      bool
	}{
		{"R", "S", true}, {"S", "R", false}, {"P", "Q", true}, {"Q", "P", false}, {"V", "W", true}, {"W", "V", true},
		{"V", "X", false}, {"P", "R", false}, {"R", "P", false}, {"R", "R", true}, {"V", "P", false},
	} {
		wantPut(t, s.Types, of(w.to), of(w.from), w.may, true)
	}
	do, _ := impl.ObjectAt(s, "do")
	for words, may := range map[string]bool{"R V P": true, "R W Q": true, "S V P": false, "R X P": false, "R V R": false, "R V": false, "R V P P": false} {
		var args []int
		for _, name := range strings.Fields(words) {
			args = append(args, of(name))
		}
		wantCall(t, s, do, args, may, true)
	}
	wantCall(t, s, do+1, []int{of("S")}, true, true)
	wantCall(t, s, do+2, nil, true, true)
	wantLayout(t, s.Types, of("S"), []impl.Place{{Name: "x", At: 0, Size: 4}, {Name: "next", At: 8, Size: 8}, {Name: "b", At: 16, Size: 1}, {Name: "n", At: 20, Size: 4}}, true)
	checkFit(t, s.Types)
}

// chain tells as many records as can be, each of which has the next one as its Base.
func chain(fields ...impl.Field) []impl.Type {
	l := impl.BaseTypes()
	for len(l) < impl.MaxTypes-1 {
		l = append(l, recordOf(len(l)+1, fields...))
	}
	return append(l, recordOf(-1, fields...))
}

func TestRecordsBehindRecords(t *testing.T) {
	l := chain()
	for n := 3; n < len(l); n++ {
		wantDeep(t, l, n, 23-n, 23, true)
		for m := 3; m < len(l); m++ {
			wantPut(t, l, n, m, m <= n, true)
		}
	}
	// The Base may have a greater number or a less one.
	l = tableOf(recordOf(6), recordOf(-1), recordOf(3), recordOf(4), recordOf(4), arrayOf(2, 5), pointerTo(5))
	for n, w := range map[int][2]int{3: {2, 4}, 4: {0, 4}, 5: {3, 4}, 6: {1, 4}, 7: {1, 4}} {
		wantDeep(t, l, n, w[0], w[1], true)
	}
	for _, n := range append(outsideOf(l), 0, 1, 2, 8, 9) {
		wantDeep(t, l, n, 0, 0, false)
	}
	// A record of a field of another one does not extend it, nor does an alike one.
	l = tableOf(recordOf(-1, field("a", 1, 4)), recordOf(-1), recordOf(-1))
	for n := 3; n < 6; n++ {
		wantDeep(t, l, n, 0, n, true)
	}
}

func TestFieldsOfAllBases(t *testing.T) {
	l := mixedTypes()
	first := []impl.Field{field("x", impl.MkFull, 0), field("next", impl.MkNone, 4), field("", impl.MkNone, 2)}
	second := append(slices.Clone(first), field("y", impl.MkRead, 6), field("x", impl.MkFull, 1))
	third := append(slices.Clone(second), field("", impl.MkNone, 8), field("z", impl.MkNone, 3))
	wantAllFields(t, l, 3, first, true)
	wantAllFields(t, l, 5, second, true)
	wantAllFields(t, l, 10, third, true)
	wantAllFields(t, l, 9, nil, true)
	for _, n := range append(outsideOf(l), 0, 1, 2, 4, 6, 7, 8) {
		wantAllFields(t, l, n, nil, false)
	}
	// Of a Base without Fields, of one behind that, and of one's own alone.
	a, b := field("a", 1, 0), field("b", 2, 1)
	l = tableOf(recordOf(4, a), recordOf(5), recordOf(-1, b), recordOf(7), recordOf(-1), recordOf(7, a, b))
	wantAllFields(t, l, 3, []impl.Field{b, a}, true)
	wantAllFields(t, l, 4, []impl.Field{b}, true)
	wantAllFields(t, l, 5, []impl.Field{b}, true)
	wantAllFields(t, l, 6, nil, true)
	wantAllFields(t, l, 7, nil, true)
	wantAllFields(t, l, 8, []impl.Field{a, b}, true)
	wantLayout(t, l, 6, nil, true)
	wantLayout(t, l, 7, nil, true)
	wantPlace(t, l, 6, "a", impl.Place{}, false)
}

// TestAsManyFieldsAsCanBe goes over all records of a table.
func TestAsManyFieldsAsCanBe(t *testing.T) {
	var own []impl.Field
	for i := range impl.MaxFields {
		own = append(own, field("f"+strconv.Itoa(i), i%3, i%3))
	}
	l := chain(own...)
	many := len(l) - 3
	wantAllFields(t, l, 3, slices.Repeat(own, many), true)
	wantAllFields(t, l, len(l)-1, own, true)
	var places []impl.Place
	for i := range many {
		for k, at := range []int{0, 4, 5, 8, 12, 13} {
			places = append(places, impl.Place{Name: "f" + strconv.Itoa(k), At: 16*i + at, Size: []int{4, 1, 1}[k%3]})
		}
	}
	wantLayout(t, l, 3, places, true)
	wantPlace(t, l, 3, "f0", impl.Place{Name: "f0", At: 16*many - 16, Size: 4}, true)
	wantPlace(t, l, 3, "f5", impl.Place{Name: "f5", At: 16*many - 3, Size: 1}, true)
	checkFit(t, l)
	checkFit(t, manyWays(field("x", 0, 0)))
	checkFit(t, manyWays())
	wantLayout(t, manyWays(field("x", 0, 0)), 3, nil, false)
}

// ofSizes tells a table with a record of fields of such sizes, and its number: of 0 an empty record, of 1
// CHAR, of 4 INT, of 8 a pointer, of others an array of CHAR.
func ofSizes(sizes ...int) ([]impl.Type, int) {
	l := tableOf(recordOf(-1), pointerTo(3))
	numbers := map[int]int{0: 3, 1: 2, 4: 0, 8: 4}
	var fields []impl.Field
	for i, size := range sizes {
		if _, is := numbers[size]; !is {
			numbers[size] = len(l)
			l = append(l, arrayOf(size, 2))
		}
		fields = append(fields, field("f"+strconv.Itoa(i), i%3, numbers[size]))
	}
	return append(l, recordOf(-1, fields...)), len(l)
}

func TestLayouts(t *testing.T) {
	for _, w := range []struct{ sizes, ats []int }{
		{nil, nil},
		{[]int{1}, []int{0}}, {[]int{4}, []int{0}}, {[]int{8}, []int{0}}, {[]int{0}, []int{0}}, {[]int{7}, []int{0}}, {[]int{1000}, []int{0}},
		{[]int{1, 4, 8}, []int{0, 4, 8}}, {[]int{1, 8, 4}, []int{0, 8, 16}}, {[]int{4, 1, 8}, []int{0, 4, 8}},
		{[]int{4, 8, 1}, []int{0, 8, 16}}, {[]int{8, 1, 4}, []int{0, 8, 12}}, {[]int{8, 4, 1}, []int{0, 8, 12}},
		{[]int{1, 1, 1, 4, 1, 4}, []int{0, 1, 2, 4, 8, 12}}, {[]int{1, 8, 1, 4, 1, 8}, []int{0, 8, 16, 20, 24, 32}},
		// What has no bytes lies where the one ahead ends, and the next one may lie there, too.
		{[]int{0, 0, 1, 0, 0, 4}, []int{0, 0, 0, 1, 1, 4}}, {[]int{8, 0, 8, 0}, []int{0, 8, 8, 16}}, {[]int{1, 0, 8}, []int{0, 1, 8}},
		// Of other sizes below 8 by each of them, of all others by 8.
		{[]int{1, 2, 3, 5, 6, 7}, []int{0, 2, 6, 10, 18, 28}}, {[]int{7, 6, 5, 3, 2, 1}, []int{0, 12, 20, 27, 30, 32}},
		{[]int{1, 9, 1, 10, 1, 16}, []int{0, 8, 17, 24, 34, 40}}, {[]int{2, 12, 3, 1000, 4, 100}, []int{0, 8, 21, 24, 1024, 1032}},
		{[]int{4, 7, 4, 15, 5, 17}, []int{0, 7, 16, 24, 40, 48}},
	} {
		l, n := ofSizes(w.sizes...)
		var want []impl.Place
		for i, size := range w.sizes {
			want = append(want, impl.Place{Name: "f" + strconv.Itoa(i), At: w.ats[i], Size: size})
		}
		wantLayout(t, l, n, want, true)
		for i, p := range want {
			wantPlace(t, l, n, "f"+strconv.Itoa(i), p, true)
		}
		wantPlace(t, l, n, "f"+strconv.Itoa(len(want)), impl.Place{}, false)
		checkFit(t, l)
		// Behind one byte of a Base, and ahead of one byte of its own.
		l = append(l, recordOf(-1, field("b", 0, 1)))
		l[n].Base = n + 1
		l = append(l, recordOf(n, field("c", 0, 2)))
		checkFit(t, l)
	}
}

// TestLayoutsOfPairs lays a field of each size behind one of each other size.
func TestLayoutsOfPairs(t *testing.T) {
	for one := range 40 {
		for other := range 40 {
			l, n := ofSizes(one, other)
			by := min(max(other, 1), 8)
			at := (one + by - 1) / by * by
			wantLayout(t, l, n, []impl.Place{{Name: "f0", Size: one}, {Name: "f1", At: at, Size: other}}, true)
			wantLaidApart(t, l, n)
		}
	}
}

func TestPlacesByNames(t *testing.T) {
	l := mixedTypes()
	for n, w := range map[int]map[string]impl.Place{
		3: {"x": {Name: "x", At: 0, Size: 4}, "next": {Name: "next", At: 8, Size: 8}},
		// Of two that are so called the last one is told, which is that of the record and not that of its Base.
		5:  {"x": {Name: "x", At: 10024, Size: 1}, "next": {Name: "next", At: 8, Size: 8}, "y": {Name: "y", At: 24, Size: 10000}},
		9:  {},
		10: {"x": {Name: "x", At: 10024, Size: 1}, "next": {Name: "next", At: 8, Size: 8}, "y": {Name: "y", At: 24, Size: 10000}, "z": {Name: "z", At: 10040, Size: 13}},
	} {
		for _, name := range []string{"x", "y", "z", "next", "X", "nex", "nextt", "R", "INT", "a"} {
			p, is := w[name]
			wantPlace(t, l, n, name, p, is)
		}
		// Fields without a Name are there, and are not called by the empty text.
		for _, name := range append(badNames, "x ", strings.Repeat("x", 100000)) {
			wantPlace(t, l, n, name, impl.Place{}, false)
		}
	}
	for _, n := range append(outsideOf(l), 0, 1, 2, 4, 6, 7, 8) {
		wantPlace(t, l, n, "x", impl.Place{}, false)
		wantPlace(t, l, n, "", impl.Place{}, false)
	}
	for _, name := range goodNames {
		l := tableOf(recordOf(4, field("", 0, 0), field(name, 1, 0)), recordOf(5, field(name, 2, 1)), recordOf(-1, field(name, 0, 2), field("", 0, 2)))
		for n, at := range map[int]int{3: 8, 4: 2, 5: 0} {
			wantPlace(t, l, n, name, impl.Place{Name: name, At: at, Size: []int{4, 1, 1}[n-3]}, true)
			wantPlace(t, l, n, "", impl.Place{}, false)
		}
	}
	// The last one may have no bytes.
	l = tableOf(recordOf(4, field("a", 0, 5)), recordOf(-1, field("a", 0, 0)), recordOf(-1))
	wantPlace(t, l, 3, "a", impl.Place{Name: "a", At: 4}, true)
	wantPlace(t, l, 4, "a", impl.Place{Name: "a", At: 0, Size: 4}, true)
}

// TestFarthestPlaces lays fields behind one of MaxWhole bytes, or of a few bytes less.
func TestFarthestPlaces(t *testing.T) {
	const most = impl.MaxWhole
	// 3 has MaxWhole bytes, 6 has none, 7 to 13 have 2, 3, 5, 6, 7, 8 and 2 MaxWhole.
	many := append(nested(3, 1000, 2), recordOf(-1), arrayOf(2, 2), arrayOf(3, 2), arrayOf(5, 2), arrayOf(6, 2), arrayOf(7, 2), pointerTo(3), arrayOf(2, 3))
	lay := func(good bool, ats []int, types ...int) {
		t.Helper()
		one := recordOf(-1)
		var want []impl.Place
		for i, of := range types {
			one.Fields = append(one.Fields, field("", 0, of))
			if good {
				size, _ := impl.SizeOf(many, of)
				want = append(want, impl.Place{At: ats[i], Size: size})
			}
		}
		l := append(copyOf(many), one, recordOf(len(many)))
		wantLayout(t, l, len(many), want, good)
		wantLayout(t, l, len(many)+1, want, good)
		checkFit(t, l)
	}
	lay(true, []int{0}, 3)
	for of, at := range map[int]int{0: most, 1: most, 2: most, 3: most, 6: most, 7: most, 9: most, 12: most} {
		lay(true, []int{0, at}, 3, of)
		lay(true, []int{0, at, at}, 3, 6, of)
	}
	// By 3, 6 and 7 there is no such number; behind one byte more nothing is, not even what has no bytes.
	for of := range many {
		lay(false, nil, 3, 8, of)
		lay(false, nil, 3, 10, of)
		lay(false, nil, 3, 11, of)
		lay(false, nil, 3, 2, of)
		lay(false, nil, 3, 3, of)
		lay(false, nil, of, 13)
		lay(false, nil, 13, of)
	}
	for _, of := range []int{8, 10, 11, 13} {
		lay(false, nil, 3, of)
	}
	lay(false, nil, 13)
	lay(true, []int{0, most, most}, 3, 6, 6)
	lay(true, []int{0, 8}, 12, 3)
	lay(false, nil, 12, 3, 6)
	// SizeOf tells nothing of such a record, and LayoutOf does.
	l := append(copyOf(many), recordOf(-1, field("a", 1, 3), field("b", 1, 2)))
	wantSize(t, l, len(l)-1, 0, false)
	wantPlace(t, l, len(l)-1, "b", impl.Place{Name: "b", At: most, Size: 1}, true)
	// Where one size or place is not told none is, and what is a Base of that is told still.
	l = append(copyOf(many), recordOf(-1, field("a", 1, 0)), recordOf(14, field("b", 1, 13)), recordOf(15, field("c", 1, 0)), recordOf(16))
	wantGood(t, l, true)
	wantPlace(t, l, 14, "a", impl.Place{Name: "a", Size: 4}, true)
	for n := 15; n <= 17; n++ {
		wantLayout(t, l, n, nil, false)
		for _, name := range []string{"a", "b", "c"} {
			wantPlace(t, l, n, name, impl.Place{}, false)
		}
		wantDeep(t, l, n, n-14, 14, true)
	}
	wantAllFields(t, l, 17, []impl.Field{field("a", 1, 0), field("b", 1, 13), field("c", 1, 0)}, true)
	wantPut(t, l, 14, 17, true, true)
}

// TestSizesThatAreFarTooLarge have sizes that 64 bits do not hold.
func TestSizesThatAreFarTooLarge(t *testing.T) {
	for _, long := range []int{512, 256, 1000, 999} {
		l := append(nested(20, long, 0)[:22], arrayOf(long, 0))
		l = append(l, recordOf(-1, field("x", 1, 0), field("y", 1, 3)))
		wantGood(t, l, true)
		wantLayout(t, l, 23, nil, false)
		l[23].Fields[1].Type = 20
		checkFit(t, l)
	}
}

func TestCalls(t *testing.T) {
	s := scopeOf(fitTypes(),
		procOf("none", 1, -1),
		procOf("one", 1, 3, param("a", false, 3)),
		procOf("ref", 0, -1, param("a", true, 3)),
		procOf("two", 0, 0, param("a", true, 8), param("b", false, 8)),
		procOf("most", 1, -1, param("a", false, 3), param("b", true, 14), param("c", false, 14), param("d", false, 0)),
		constOf("k", 1, 7), typeOf("T", 1, 3), varOf("v", 1, 3),
	)
	s.Imports = []string{"B"}
	wantGoodScope(t, s, true)
	wantCall(t, s, 0, nil, true, true)
	wantCall(t, s, 0, []int{}, true, true)
	for n := range s.Types {
		wantCall(t, s, 0, []int{n}, false, true)
		wantCall(t, s, 1, []int{n}, n >= 3 && n <= 6, true)
		wantCall(t, s, 2, []int{n}, n == 3, true)
		for m := range s.Types {
			wantCall(t, s, 3, []int{n, m}, n == 8 && (m >= 8 && m <= 11 || m == 13), true)
			wantCall(t, s, 1, []int{n, m}, false, true)
			wantCall(t, s, 4, []int{n, m, 14, 0}, n >= 3 && n <= 6 && m == 14, true)
			wantCall(t, s, 4, []int{5, 14, n, m}, (n == 14 || n == 15) && m == 0, true)
			for _, p := range []int{5, 6, 7} {
				wantCall(t, s, p, []int{n, m}, false, false)
			}
		}
		wantCall(t, s, 3, []int{n}, false, true)
		wantCall(t, s, 3, []int{8, 8, n}, false, true)
		wantCall(t, s, 4, []int{3, 14, 14, 0, n}, false, false)
		wantCall(t, s, 0, []int{n, n, n, n, n}, false, false)
	}
	for n := range 4 {
		wantCall(t, s, 4, []int{3, 14, 14, 0}[:n], false, true)
		wantCall(t, s, 0, []int{3, 14, 14, 0}[n:], false, true)
	}
	wantCall(t, s, 0, slices.Repeat([]int{0}, 100000), false, false)
	for _, p := range []int{5, 6, 7, 8, -1, -2, 16, 1000, 1 << 32, math.MaxInt, math.MinInt} {
		for _, args := range [][]int{nil, {0}, {3}, {3, 3}, {-1}} {
			wantCall(t, s, p, args, false, false)
		}
	}
	// A number of no type is none as said wherever it stands, and -1 is no type, though a proc may have it.
	for _, n := range outsideOf(s.Types) {
		for p := range s.Objects {
			for _, args := range [][]int{{n}, {n, 3}, {3, n}, {8, n}, {3, 14, 14, n}, {7, 14, n, 0}, {n, n, n, n}, {3, 14, 14, 0, n}} {
				wantCall(t, s, p, args, false, false)
			}
		}
	}
	r := &row{seed: 5}
	for range 200 {
		r.checkCalls(t, s)
	}
}

func TestNumbersLinedUp(t *testing.T) {
	for n := -20; n <= 200; n++ {
		for by := -20; by <= 20; by++ {
			if n < 0 || by < 1 || by > 8 {
				wantLinedUp(t, n, by, 0, false)
				continue
			}
			want := n
			for want%by != 0 {
				want++
			}
			wantLinedUp(t, n, by, want, true)
		}
	}
	// Behind MaxWhole there may be one that divides, and it is told.
	for by, more := range []int{0, 0, 0, 2, 0, 0, 2, 1, 0} {
		if by > 0 {
			wantLinedUp(t, impl.MaxWhole, by, impl.MaxWhole+more, true)
			wantLinedUp(t, impl.MaxWhole-by+more, by, impl.MaxWhole-by+more, true)
		}
	}
	for by := 1; by <= 8; by++ {
		for _, n := range []int{impl.MaxWhole + 1, impl.MaxWhole + 2, 2 * impl.MaxWhole, -1, -8, math.MaxInt, math.MaxInt - 7, math.MinInt, -impl.MaxWhole, 1 << 32} {
			wantLinedUp(t, n, by, 0, false)
		}
	}
	for _, by := range []int{0, -1, -8, 9, 16, 256, 257, 1 << 32, 1<<32 + 1, math.MaxInt, math.MinInt} {
		for _, n := range []int{0, 1, 8, 9, impl.MaxWhole, impl.MaxWhole + 1, -1} {
			wantLinedUp(t, n, by, 0, false)
		}
	}
}

func TestNumbersOutsideOfFit(t *testing.T) {
	for _, l := range [][]impl.Type{fitTypes(), mixedTypes(), impl.BaseTypes()} {
		for _, n := range outsideOf(l) {
			wantNoRecord(t, l, n)
			for m := range l {
				wantPut(t, l, n, m, false, false)
				wantPut(t, l, m, n, false, false)
			}
			wantPut(t, l, n, n, false, false)
		}
	}
}

func TestFitOfTypesThatAreNotGood(t *testing.T) {
	tables := badTables()
	for _, w := range roundTypes {
		tables = append(tables, tableOf(w.others...))
	}
	tables = append(tables, append(fitTypes(), recordOf(-1)), tableOf(slices.Repeat([]impl.Type{recordOf(-1)}, 100000)...))
	for _, l := range tables {
		for n := -1; n <= min(len(l), 25); n++ {
			wantNoRecord(t, l, n)
			for m := -1; m <= min(len(l), 25); m++ {
				wantPut(t, l, n, m, false, false)
			}
		}
	}
	for _, s := range badScopes() {
		for n := -1; n <= min(len(s.Objects), 20); n++ {
			for _, args := range [][]int{nil, {0}, {4}, {5, 2}, {10}} {
				wantCall(t, s, n, args, false, false)
			}
		}
	}
	s := fullScope()
	for n := range s.Objects {
		for _, args := range [][]int{nil, {0}, {4}, {5, 2}, {10}} {
			proc := n == 7 || n == 8 || n == 9
			may := n == 7 && args == nil || n == 8 && len(args) == 2 || n == 9 && len(args) == 1 && args[0] == 10
			wantCall(t, s, n, args, may, proc)
		}
	}
}

// callFit calls each function of the chapter but LineUp.
func callFit(s impl.Scope, n, m int, name string, args []int) {
	impl.MayPut(s.Types, n, m)
	impl.AllFields(s.Types, n)
	impl.LayoutOf(s.Types, n)
	impl.PlaceOf(s.Types, n, name)
	impl.DeepOf(s.Types, n)
	impl.RootOf(s.Types, n)
	impl.MayCall(s, n, args)
}

func TestFitWritesIntoNothing(t *testing.T) {
	scopes := append(badScopes(), fullScope(), exportOfFull(), scopeOf(fitTypes(), procOf("p", 1, -1, param("a", false, 3), param("b", true, 3))), scopeOf(chain(field("x", 1, 0)), procOf("p", 1, -1)))
	for i, s := range scopes {
		for n := -1; n <= min(len(s.Types), 25); n++ {
			for _, args := range [][]int{nil, {5, 3}, {3, 3, 0, 1, 2}} {
				before, kept := copyOfScope(s), slices.Clone(args)
				callFit(s, n, 3, "x", args)
				callFit(s, 5, n, "", args)
				if !reflect.DeepEqual(s, before) || !slices.Equal(args, kept) {
					t.Fatalf("scope %d, or %v, is written into", i, kept)
				}
			}
		}
	}
}

// TestWhatLiesBehindFit lays all lists into memory that goes on behind them.
func TestWhatLiesBehindFit(t *testing.T) {
	s, same := laidApart(fullScope())
	args, room := behind([]int{5, 2}, 7, 3)
	kept := slices.Clone(room)
	checkFit(t, s.Types)
	wantCall(t, s, 8, args, true, true)
	wantCall(t, s, 8, args[:1], false, true)
	wantCall(t, s, 7, args[:0], true, true)
	wantCall(t, s, 10, args, false, false)
	wantPut(t, s.Types, 11, 11, false, false)
	wantNoRecord(t, s.Types, 11)
	wantPlace(t, s.Types, 10, "far", impl.Place{}, false)
	for n := range s.Types {
		callFit(s, n, n, "x", args)
	}
	if !same() || !slices.Equal(room, kept) {
		t.Error("what lies behind the lists of a scope, or the types of a call, is written into")
	}
}

func TestFitAnswersAreNewMemory(t *testing.T) {
	s := withOwnTexts(fullScope())
	l, given := s.Types, textsOf(s)
	for _, n := range []int{3, 5, 10} {
		fields, _ := impl.AllFields(l, n)
		again, _ := impl.AllFields(l, n)
		apart(t, fields, again)
		places, _ := impl.LayoutOf(l, n)
		placesAgain, _ := impl.LayoutOf(l, n)
		apart(t, places, placesAgain)
		for _, one := range l {
			apart(t, fields, one.Fields)
			apart(t, places, one.Fields)
		}
		for i := range fields {
			apartTexts(t, given, fields[i].Name, places[i].Name)
		}
		name := strings.Clone("x")
		one, _ := impl.PlaceOf(l, n, name)
		apartTexts(t, append(given, name), one.Name)
		keptFields, keptPlaces := slices.Clone(again), slices.Clone(placesAgain)
		clear(fields[:cap(fields)])
		clear(places[:cap(places)])
		if !slices.Equal(again, keptFields) || !slices.Equal(placesAgain, keptPlaces) || !sameByHand(s, fullScope()) {
			t.Error("an answer is kept", again, placesAgain)
		}
		wantAllFields(t, l, n, keptFields, true)
		wantLayout(t, l, n, keptPlaces, true)
	}
	checkFit(t, l)
}

// TestNothingIsKeptOfFit changes types between calls, and asks from many sides at once.
func TestNothingIsKeptOfFit(t *testing.T) {
	l, n := ofSizes(1, 8, 4)
	places := func(ats ...int) []impl.Place {
		return []impl.Place{{Name: "f0", At: ats[0], Size: 1}, {Name: "f1", At: ats[1], Size: 8}, {Name: "f2", At: ats[2], Size: 4}}
	}
	wantLayout(t, l, n, places(0, 8, 16), true)
	l[n].Base = len(l)
	l = append(l, recordOf(-1, field("b", 0, 0)))
	wantLayout(t, l, n, append([]impl.Place{{Name: "b", Size: 4}}, places(4, 8, 16)...), true)
	l[n].Base = -1
	wantLayout(t, l, n, places(0, 8, 16), true)
	for i := range 8 {
		t.Run("side", func(t *testing.T) {
			t.Parallel()
			for k := range 20 {
				if (i+k)%2 == 0 {
					wantLayout(t, l, n, places(0, 8, 16), true)
				} else {
					wantLayout(t, l, n+1, []impl.Place{{Name: "b", Size: 4}}, true)
				}
				wantPut(t, l, n, n+1, false, true)
			}
		})
	}
}
