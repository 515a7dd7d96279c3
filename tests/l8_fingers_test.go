package tests

import (
	"math"
	"reflect"
	"slices"
	"strings"
	"testing"

	"loop.example/g00837/impl"
)

func wantTextFinger(t *testing.T, s string, want int, good bool) {
	t.Helper()
	if got, ok := impl.TextFinger(s); got != want || ok != good {
		t.Errorf("TextFinger(%q) = %d, %v, want %d, %v", s, got, ok, want, good)
	}
}

func wantRounds(t *testing.T, l []impl.Type, rounds int, want []int) {
	t.Helper()
	if got, ok := impl.RoundFingers(l, rounds); !slices.Equal(got, want) || !ok {
		t.Errorf("RoundFingers(%v, %d) = %v, %v, want %v", l, rounds, got, ok, want)
	}
}

func roundsOf(t *testing.T, l []impl.Type, rounds int) []int {
	t.Helper()
	sums, ok := impl.RoundFingers(l, rounds)
	if !ok || len(sums) != len(l) {
		t.Fatalf("RoundFingers(%v, %d) = %v, %v", l, rounds, sums, ok)
	}
	return sums
}

func wantTypeFinger(t *testing.T, l []impl.Type, n, want int, good bool) {
	t.Helper()
	if got, ok := impl.TypeFinger(l, n); got != want || ok != good {
		t.Errorf("TypeFinger(%v, %d) = %d, %v, want %d, %v", l, n, got, ok, want, good)
	}
}

func wantObjectFinger(t *testing.T, s impl.Scope, n, want int, good bool) {
	t.Helper()
	if got, ok := impl.ObjectFinger(s, n); got != want || ok != good {
		t.Errorf("ObjectFinger(%v, %d) = %d, %v, want %d, %v", s, n, got, ok, want, good)
	}
}

func wantFingers(t *testing.T, s impl.Scope, want []impl.Finger) {
	t.Helper()
	if got, ok := impl.FingersOf(s); !slices.Equal(got, want) || !ok {
		t.Errorf("FingersOf(%v) = %v, %v, want %v", s, got, ok, want)
	}
}

func wantScopeFinger(t *testing.T, s impl.Scope, want int, good bool) {
	t.Helper()
	if got, ok := impl.ScopeFinger(s); got != want || ok != good {
		t.Errorf("ScopeFinger(%v) = %d, %v, want %d, %v", s, got, ok, want, good)
	}
}

func wantFingerAt(t *testing.T, s impl.Scope, name string, want int, good bool) {
	t.Helper()
	if got, ok := impl.FingerAt(s, name); got != want || ok != good {
		t.Errorf("FingerAt(%v, %q) = %d, %v, want %d, %v", s, name, got, ok, want, good)
	}
}

// wantNoRounds asks for the zero answers of types that are not good.
func wantNoRounds(t *testing.T, l []impl.Type) {
	t.Helper()
	for _, rounds := range []int{-1, 0, 1, 25, 26} {
		if got, ok := impl.RoundFingers(l, rounds); len(got) != 0 || ok {
			t.Errorf("RoundFingers(%v, %d) = %v, %v", l, rounds, got, ok)
		}
	}
	for n := -1; n <= min(len(l), 25); n++ {
		wantTypeFinger(t, l, n, 0, false)
	}
}

// wantNoFingers asks for the zero answers of a scope that is not good.
func wantNoFingers(t *testing.T, s impl.Scope, names []string) {
	t.Helper()
	if got, ok := impl.FingersOf(s); len(got) != 0 || ok {
		t.Errorf("FingersOf(%v) = %v, %v", s, got, ok)
	}
	wantScopeFinger(t, s, 0, false)
	for n := -1; n <= min(len(s.Objects), 20); n++ {
		wantObjectFinger(t, s, n, 0, false)
	}
	for _, o := range s.Objects {
		wantFingerAt(t, s, o.Name, 0, false)
	}
	for _, name := range names {
		wantFingerAt(t, s, name, 0, false)
	}
}

// wantRenumbered asks for the same numbers of types in another order.
func wantRenumbered(t *testing.T, l []impl.Type, order []int) {
	t.Helper()
	turned := renumbered(l, order)
	for rounds := range 26 {
		sums := roundsOf(t, l, rounds)
		want := make([]int, len(l))
		for n, to := range order {
			want[to] = sums[n]
		}
		wantRounds(t, turned, rounds, want)
	}
	for n, to := range order {
		sum, ok := impl.TypeFinger(l, n)
		wantTypeFinger(t, turned, to, sum, ok)
	}
}

func TestFingerConstantsAreAsTold(t *testing.T) {
	if impl.Rounds != 25 {
		t.Error(impl.Rounds)
	}
}

func TestFingersOfTexts(t *testing.T) {
	for s, want := range map[string]int{
		"": 0, "\x00": 48000144, "A": 8563025688, "AB": 266415607002322092, "BA": 270476631029375632,
		"INT": 1554385149696578986, "aB3": 2005088790775744901, "a b\n": 575918559175245755,
		"\xff": 33453100352, "\xc3\xa4": 794348788415616902,
		strings.Repeat("x", 200): 512038338520577359, strings.Repeat("\x00", 200): 2871998971353298290,
	} {
		wantTextFinger(t, s, want, true)
	}
	for c := range 256 {
		one := string([]byte{byte(c)})
		wantTextFinger(t, one, mixOf(1, c), true)
		wantTextFinger(t, one+"\x00"+one, mixOf(mixOf(mixOf(3, c), 0), c), true)
	}
}

func TestHowLongTextsMayBe(t *testing.T) {
	all := strings.Repeat("so \xff\x00\n9Z", 40)
	for long := range 201 {
		wantTextFinger(t, all[:long], textMixed(all[:long]), true)
	}
	// Bytes are counted, not what they are as runes.
	wantTextFinger(t, strings.Repeat("\xc3\xa4", 100), textMixed(strings.Repeat("\xc3\xa4", 100)), true)
	wantTextFinger(t, strings.Repeat("\xc3\xa4", 101), 0, false)
	for _, long := range []int{201, 202, 255, 256, 300, 320} {
		wantTextFinger(t, all[:long], 0, false)
	}
	wantTextFinger(t, strings.Repeat("\x00", 201), 0, false)
	wantTextFinger(t, strings.Repeat("a", 1000000), 0, false)
}

// roundsTold are numbers of the types of ringScope and of mixedTypes behind some rounds.
var roundsTold = []struct {
	ring   bool
	rounds int
	sums   []int
}{
	{true, 0, []int{4145338178026504771, 4226183374793984077, 2113525515095741140, 1022421895057654174, 4378703002696624147}},
	{true, 1, []int{732426668167527540, 1003341598326353319, 2019655303715899841, 4046825328598880731, 3539330521190057998}},
	{true, 2, []int{732426668167527540, 1003341598326353319, 2019655303715899841, 1299001524237947975, 2596437515594408508}},
	{true, 3, []int{732426668167527540, 1003341598326353319, 2019655303715899841, 3816148659821421250, 428842277542795129}},
	{true, 25, []int{732426668167527540, 1003341598326353319, 2019655303715899841, 1490927949917370066, 2634423462080913807}},
	{false, 0, []int{4145338178026504771, 4226183374793984077, 2113525515095741140, 1022421894662101845, 4378703002696624147, 2380943279168346219, 4338678313577788508, 1289307428173815713, 1982886478227987591, 2380943278906051033, 2380943279168346219}},
	{false, 1, []int{732426668167527540, 1003341598326353319, 2019655303715899841, 746909939085453065, 2964609674297377859, 4331370630631830449, 4438671904219250686, 1874581583035064895, 4051941464728954488, 232129488099400817, 676312930736074468}},
	{false, 2, []int{732426668167527540, 1003341598326353319, 2019655303715899841, 2247355198251471829, 1109578111624258051, 3719000560148495452, 964139852087776011, 397758464619621660, 121089964877091610, 232129488099400817, 1046723631706892980}},
	{false, 25, []int{732426668167527540, 1003341598326353319, 2019655303715899841, 1562785510484664219, 3689317765648151202, 3786312783722311316, 3354015215316213711, 397758464619621660, 2595000043594928334, 232129488099400817, 4146203457873334006}},
}

func TestRoundsTold(t *testing.T) {
	for _, w := range roundsTold {
		l := mixedTypes()
		if w.ring {
			l = ringScope().Types
		}
		wantRounds(t, l, w.rounds, w.sums)
		if w.rounds == 25 {
			for n, sum := range w.sums {
				wantTypeFinger(t, l, n, sum, true)
			}
		}
	}
	checkRounds(t, mixedTypes())
	checkRounds(t, ringScope().Types)
	checkRounds(t, impl.BaseTypes())
}

func TestHowManyRounds(t *testing.T) {
	for _, l := range [][]impl.Type{impl.BaseTypes(), mixedTypes(), ringScope().Types} {
		m := backOf(l)
		for rounds := range 26 {
			var want []int
			for n := range l {
				want = append(want, m.sum(n, rounds))
			}
			wantRounds(t, l, rounds, want)
		}
		for _, rounds := range append([]int{-1, -2, -25, 26, 27, 50, 256, 1 << 32, 1<<32 + 1}, farNumbers...) {
			if got, ok := impl.RoundFingers(l, rounds); len(got) != 0 || ok {
				t.Errorf("RoundFingers of %d rounds = %v, %v", rounds, got, ok)
			}
		}
	}
}

// TestOneRound goes through one round by hand, of types with a Base and without, and with fields that
// have no names.
func TestOneRound(t *testing.T) {
	l := tableOf(recordOf(-1), recordOf(3), recordOf(-1, field("", 0, 0), field("ab", 2, 4), field("", 0, 6)), pointerTo(5))
	at := roundsOf(t, l, 0)
	a, b := int('a'), int('b')
	wantRounds(t, l, 0, []int{
		mixedOf(1, 0, 0, textMixed("INT"), 0), mixedOf(2, 0, 0, textMixed("BOOL"), 0), mixedOf(3, 0, 0, textMixed("CHAR"), 0),
		mixedOf(5, 0, 0, 0, 0), mixedOf(5, 0, 0, 0, 0), mixedOf(5, 0, 0, 0, 3), mixedOf(6, 0, 0, 0, 0)})
	wantRounds(t, l, 1, []int{
		mixedOf(at[0], 7), mixedOf(at[1], 7), mixedOf(at[2], 7), mixedOf(at[3], 7), mixedOf(at[4], at[3]),
		mixedOf(at[5], 7, 0, 0, at[0], mixedOf(a, b), 2, at[4], 0, 0, at[6]), mixedOf(at[6], at[5])})
	called := tableOf(calledSo(arrayOf(1000, 1), "Own", "Nam"), calledSo(arrayOf(1, 3), "Nam", "Own"))
	wantRounds(t, called, 0, append(at[:3:3], mixedOf(4, 1000, textMixed("Own"), textMixed("Nam"), 0), mixedOf(4, 1, textMixed("Nam"), textMixed("Own"), 0)))
}

// ringOf tells records and pointers to the next one, the last one to the first; the last record is made
// otherwise. Record n is type 3 + 2n, the pointer in it the type behind.
func ringOf(many int, other func(record *impl.Type)) []impl.Type {
	l := impl.BaseTypes()
	for n := range many {
		next := 3 + 2*((n+1)%many)
		l = append(l, recordOf(-1, field("next", 1, 4+2*n)), pointerTo(next))
	}
	other(&l[len(l)-2])
	return l
}

// TestTypesThatALaterRoundTellsApart asks in which round types that name one another are told apart:
// when the other record is as many steps from one of them.
func TestTypesThatALaterRoundTellsApart(t *testing.T) {
	for _, w := range []struct {
		first int // the round in which the other record itself is told apart
		other func(record *impl.Type)
	}{
		{0, func(r *impl.Type) { r.Fields = append(r.Fields, field("", 0, 0)) }},
		{0, func(r *impl.Type) { r.Owner, r.Name = "A", "R" }},
		{1, func(r *impl.Type) { r.Fields[0].Mark = 2 }},
		{1, func(r *impl.Type) { r.Fields[0].Name = "Next" }},
	} {
		for many := 2; many <= 10; many++ {
			l := ringOf(many, w.other)
			steps := func(n int) int { return (2*many - 2 - (n - 3) + 2*many) % (2 * many) }
			for rounds := range 26 {
				sums := roundsOf(t, l, rounds)
				for x := 3; x < len(l); x++ {
					for y := 3; y < x; y++ {
						apart := l[x].Kind != l[y].Kind || min(steps(x), steps(y))+w.first <= rounds
						if (sums[x] != sums[y]) != apart {
							t.Fatalf("types %d and %d of %d records in round %d: apart is %v", x, y, many, rounds, !apart)
						}
					}
				}
			}
			checkRounds(t, l)
		}
	}
}

func TestTypesThatNoRoundTellsApart(t *testing.T) {
	l := ringOf(10, func(r *impl.Type) {})
	for rounds := range 26 {
		sums := roundsOf(t, l, rounds)
		for n := 3; n < len(l); n += 2 {
			if sums[n] != sums[3] || sums[n+1] != sums[4] || sums[3] == sums[4] {
				t.Fatal("alike types have other numbers in round", rounds, sums)
			}
		}
	}
	// What names itself is as what names another one that is alike.
	one, two := ringOf(1, func(r *impl.Type) {}), ringOf(2, func(r *impl.Type) {})
	wantToldApart(t, one, two)
	wantToldApart(t, one, l)
}

// arraysOf tells arrays of pointers to the next array, the last one to the first.
func arraysOf(longs ...int) []impl.Type {
	l := impl.BaseTypes()
	for n, long := range longs {
		next := 3 + 2*((n+1)%len(longs))
		l = append(l, arrayOf(long, 4+2*n), pointerTo(next))
	}
	return l
}

// TestTypesThatAreUnlikeTooFarAway: two tables may hold types that only a 34th round would tell apart;
// there are no more than 25.
func TestTypesThatAreUnlikeTooFarAway(t *testing.T) {
	nine := arraysOf(1, 1, 1, 1, 1, 1, 1, 1, 2)
	ten := arraysOf(1, 1, 1, 1, 1, 1, 1, 1, 2, 1)
	wantSame(t, nine, 3, ten, 3, false, true)
	for rounds := range 26 {
		if one, other := roundsOf(t, nine, rounds)[3], roundsOf(t, ten, rounds)[3]; one != other {
			t.Error("told apart in round", rounds)
		}
	}
	// From the type 10 steps further on it is 24 more, from the one behind that 23.
	for n := 13; n <= 20; n++ {
		one, other := roundsOf(t, nine, 25)[n], roundsOf(t, ten, 25)[n]
		if early, late := roundsOf(t, nine, 36-n)[n], roundsOf(t, ten, 36-n)[n]; one == other || early != late {
			t.Error("type", n, one, other, early, late)
		}
		if early, late := roundsOf(t, nine, 37-n)[n], roundsOf(t, ten, 37-n)[n]; early == late {
			t.Error("type", n, "is told apart too late")
		}
	}
}

// greatestTable has MaxTypes types, all names and fields as long and as many as can be, a chain of Bases
// that goes through all, and fields of all types that come ahead.
func greatestTable() []impl.Type {
	l := impl.BaseTypes()
	for n := 3; n < impl.MaxTypes; n++ {
		one := calledSo(recordOf(n-1), "ownerOfOne", string(rune('a'+n))+"nameOfOne")
		if n == 3 {
			one.Base = -1
		}
		for k := range impl.MaxFields {
			one.Fields = append(one.Fields, field(string(rune('a'+k))+"fieldName", k%3, (n*k+n-1)%n))
		}
		l = append(l, one)
	}
	return l
}

func TestTablesOfMaxTypes(t *testing.T) {
	l := greatestTable()
	if len(l) != 24 || !checkRounds(t, l) {
		t.Fatal("the greatest table has no fingers", len(l))
	}
	wantRenumbered(t, l, append([]int{0, 1, 2}, 23, 22, 21, 20, 19, 18, 17, 16, 15, 14, 13, 12, 11, 10, 9, 8, 7, 6, 5, 4, 3))
	wantNoRounds(t, append(l, recordOf(-1)))
	// A chain of Bases of which the first ones differ: each round tells one more pair of twins apart.
	chain := tableOf(recordOf(-1), recordOf(-1, field("", 0, 0)))
	for n := 5; n < impl.MaxTypes; n++ {
		chain = append(chain, recordOf(n-2))
	}
	for rounds := range 26 {
		sums := roundsOf(t, chain, rounds)
		for n := 3; n+1 < impl.MaxTypes; n += 2 {
			if (sums[n] != sums[n+1]) != ((n-3)/2 <= rounds) {
				t.Error("twins", n, "in round", rounds)
			}
		}
	}
	checkRounds(t, chain)
}

func TestFingersDoNotHangOnNumbersOfTypes(t *testing.T) {
	order := []int{0, 1, 2, 10, 9, 8, 7, 6, 5, 4, 3}
	wantRenumbered(t, mixedTypes(), order)
	s := fullScope()
	turned := renumberedScope(s, order)
	wantSameFingers(t, turned, s)
	for n := range s.Objects {
		sum, ok := impl.ObjectFinger(s, n)
		wantObjectFinger(t, turned, n, sum, ok)
	}
	for _, export := range exports(t) {
		for seed := range 5 {
			r := &row{seed: uint64(seed + 1)}
			other := r.shuffled(len(export.Types), 3)
			wantRenumbered(t, export.Types, other)
			wantSameFingers(t, renumberedScope(export, other), export)
		}
	}
	// One table may tell as two types what another one tells as one.
	one := scopeOf(tableOf(arrayOf(2, 0)), procOf("p", 1, 3, param("a", true, 3)))
	two := scopeOf(tableOf(arrayOf(2, 0), arrayOf(2, 0)), procOf("p", 1, 4, param("a", true, 3)))
	wantSameFingers(t, one, two)
}

// objectsTold are the fingers of all objects of fullScope.
var objectsTold = []int{
	2042228113861234381, 4162248415680507519, 3273132956223908985, 4107892769258220667, 3359050448076884054,
	2962648610122943593, 522056211900862921, 2766102213320652031, 2345093078739857614, 8577096844733290,
}

func TestFingersOfObjects(t *testing.T) {
	s := fullScope()
	for n, want := range objectsTold {
		wantObjectFinger(t, s, n, want, true)
	}
	wantObjectFinger(t, ringScope(), 0, 4306798251696492974, true)
	wantObjectFinger(t, ringScope(), 1, 2842724034908109230, true)
	checkFingers(t, s)
	checkFingers(t, exportOfFull())
}

// TestObjectsByHand mixes what objects tell: an ObConst has the Type 0, of which there is a finger, and
// an ObProc without a Type has 5 instead.
func TestObjectsByHand(t *testing.T) {
	l := mixedTypes()
	sums := roundsOf(t, l, 25)
	o, a, b := textMixed("o"), textMixed("a"), textMixed("b9")
	for _, w := range []struct {
		object impl.Object
		want   int
	}{
		{constOf("o", 0, 0), mixedOf(o, 1, 0, 0, sums[0])},
		{constOf("o", 1, -9), mixedOf(o, 1, 1, -9, sums[0])},
		{constOf("o", 1, impl.MaxWhole), mixedOf(o, 1, 1, 1000000000, sums[0])},
		{constOf("o", 1, -impl.MaxWhole), mixedOf(o, 1, 1, -1000000000, sums[0])},
		{typeOf("o", 1, 10), mixedOf(o, 2, 1, 0, sums[10])},
		{varOf("o", 2, 4), mixedOf(o, 3, 2, 0, sums[4])},
		{procOf("o", 1, -1), mixedOf(o, 4, 1, 0, 5)},
		{procOf("o", 0, -1), mixedOf(o, 4, 0, 0, 5)},
		{procOf("o", 1, 0), mixedOf(o, 4, 1, 0, sums[0])},
		{procOf("o", 1, 5), mixedOf(o, 4, 1, 0, sums[5])},
		{procOf("o", 1, -1, param("a", true, 3)), mixedOf(o, 4, 1, 0, 5, a, 1, sums[3])},
		{procOf("o", 1, -1, param("a", false, 3)), mixedOf(o, 4, 1, 0, 5, a, 0, sums[3])},
		{procOf("o", 1, 3, param("a", false, 1), param("b9", true, 2)), mixedOf(o, 4, 1, 0, sums[3], a, 0, sums[1], b, 1, sums[2])},
		{procOf("o", 1, 3, param("b9", true, 2), param("a", false, 1)), mixedOf(o, 4, 1, 0, sums[3], b, 1, sums[2], a, 0, sums[1])},
	} {
		wantObjectFinger(t, scopeOf(l, w.object), 0, w.want, true)
		wantObjectFinger(t, scopeOf(l, varOf("first", 1, 1), w.object), 1, w.want, true)
	}
	full := procOf("abcdefghij", 1, 10, param("aparamName", true, 3), param("bparamName", false, 4), param("cparamName", true, 5), param("dparamName", false, 6))
	if !checkFingers(t, scopeOf(l, full)) {
		t.Error("no finger of the greatest object")
	}
}

func TestNumbersOfObjectsForFingers(t *testing.T) {
	s := fullScope()
	for _, n := range append([]int{-1, -2, len(s.Objects), len(s.Objects) + 1, 16, 17, 256, 1 << 32, 1<<32 + 1}, farNumbers...) {
		wantObjectFinger(t, s, n, 0, false)
		wantObjectFinger(t, scopeOf(impl.BaseTypes()), n, 0, false)
	}
	wantObjectFinger(t, scopeOf(impl.BaseTypes()), 0, 0, false)
	for _, l := range [][]impl.Type{impl.BaseTypes(), mixedTypes(), greatestTable()} {
		for _, n := range append(outsideOf(l), 256, 1<<32+1) {
			wantTypeFinger(t, l, n, 0, false)
		}
	}
}

// fingersOfFull is by rising names, whatever the order of the objects is.
func fingersOfFull() []impl.Finger {
	return []impl.Finger{
		{Name: "R", Mark: 1, Sum: objectsTold[3]},
		{Name: "find", Mark: 1, Sum: objectsTold[8]},
		{Name: "free", Mark: 1, Sum: objectsTold[5]},
		{Name: "least", Mark: 1, Sum: objectsTold[2]},
		{Name: "list", Mark: 2, Sum: objectsTold[1]},
		{Name: "run", Mark: 1, Sum: objectsTold[7]},
	}
}

func TestFingersAreByRisingNames(t *testing.T) {
	s := fullScope()
	r := &row{seed: 3}
	for range 50 {
		wantFingers(t, s, fingersOfFull())
		wantScopeFinger(t, s, 2509260297510458929, true)
		s = r.turnedObjects(s)
	}
	names := []string{"A", "A0", "A1", "AA", "Aa", "B", "Z", "Z9", "Za", "a", "a0", "a9", "aZ", "aa", "b", "zzzzzzzzzz"}
	s = scopeOf(impl.BaseTypes())
	var want []impl.Finger
	for n, name := range names {
		s.Objects = append(s.Objects, constOf(name, 1, n))
		want = append(want, impl.Finger{Name: name, Mark: 1, Sum: mixedOf(textMixed(name), 1, 1, n, 732426668167527540)})
	}
	for range 50 {
		wantFingers(t, s, want)
		s = r.turnedObjects(s)
	}
	slices.Reverse(s.Objects)
	checkFingers(t, s)
}

func TestFingersOfAFewObjectsAndOfNone(t *testing.T) {
	none := scopeOf(impl.BaseTypes())
	wantFingers(t, none, nil)
	wantScopeFinger(t, none, 1121759732446714043, true)
	wantFingerAt(t, none, "A", 0, false)
	for _, name := range goodNames {
		other := impl.Scope{Name: name, Types: mixedTypes()}
		wantScopeFinger(t, other, mixOf(1, textMixed(name)), true)
		checkFingers(t, other)
	}
	hidden := changedScope(fullScope(), func(s *impl.Scope) {
		for i := range s.Objects {
			s.Objects[i].Mark = 0
		}
	})
	wantFingers(t, hidden, nil)
	wantScopeFinger(t, hidden, 1121759732446714043, true)
	checkFingers(t, hidden)
	wantScopeFinger(t, ringScope(), 4040029536791588419, true)
	wantFingers(t, ringScope(), []impl.Finger{{Name: "R", Mark: 1, Sum: 4306798251696492974}, {Name: "v", Mark: 2, Sum: 2842724034908109230}})
}

// greatestScope has MaxObjects objects, all of them shown, with MaxParams params each.
func greatestScope() impl.Scope {
	s := impl.Scope{Name: "moduleName", Types: greatestTable()}
	for n := range impl.MaxObjects {
		o := procOf(string(rune('z'-n))+"procName9", 1, 23-n)
		for k := range impl.MaxParams {
			o.Params = append(o.Params, param(string(rune('a'+k))+"paramName", (n+k)%2 == 0, 23-k))
		}
		s.Objects = append(s.Objects, o)
	}
	return s
}

func TestFingersOfMaxObjects(t *testing.T) {
	s := greatestScope()
	if len(s.Objects) != 16 || !checkFingers(t, s) {
		t.Fatal("no fingers of MaxObjects objects")
	}
	fingers, _ := impl.FingersOf(s)
	if len(fingers) != 16 || fingers[0].Name != "kprocName9" || fingers[15].Name != "zprocName9" {
		t.Error(fingers)
	}
	order := []int{0, 1, 2, 23, 22, 21, 20, 19, 18, 17, 16, 15, 14, 13, 12, 11, 10, 9, 8, 7, 6, 5, 4, 3}
	wantSameFingers(t, renumberedScope(s, order), s)
	more := changedScope(s, func(s *impl.Scope) { s.Objects = append(s.Objects, constOf("more", 0, 0)) })
	wantNoFingers(t, more, nil)
}

func TestFingersAtNames(t *testing.T) {
	s := fullScope()
	for _, f := range fingersOfFull() {
		wantFingerAt(t, s, f.Name, f.Sum, true)
	}
	for _, name := range []string{"hidden", "Own", "own", "help"} {
		wantFingerAt(t, s, name, 0, false)
	}
	for _, name := range []string{"A", "B", "x", "P", "in", "by", "INT", "r", "lis", "lists", "LIST", "next", strings.Repeat("x", 100000)} {
		wantFingerAt(t, s, name, 0, false)
	}
	for _, name := range badNames {
		wantFingerAt(t, s, name, 0, false)
		wantFingerAt(t, scopeOf(impl.BaseTypes()), name, 0, false)
	}
	// The first and the last object are found as others are.
	for n := range s.Objects {
		one := changedScope(s, func(s *impl.Scope) { s.Objects = s.Objects[n : n+1] })
		sum, told := objectsTold[n], one.Objects[0].Mark > 0
		if !told {
			sum = 0
		}
		wantFingerAt(t, one, one.Objects[0].Name, sum, told)
	}
}

// TestFingersDoNotHangOnWhatIsHidden leaves out, makes otherwise and puts in what is not shown.
func TestFingersDoNotHangOnWhatIsHidden(t *testing.T) {
	for i, change := range []func(s *impl.Scope){
		func(s *impl.Scope) { s.Objects[0].Value = 1000 },
		func(s *impl.Scope) { s.Objects[0].Name = "zz" },
		func(s *impl.Scope) { s.Objects[0] = varOf("AA", 0, 9) },
		func(s *impl.Scope) { s.Objects[6].Type = 3 },
		func(s *impl.Scope) { s.Objects[9].Params = nil },
		func(s *impl.Scope) { s.Objects[9].Type = -1 },
		func(s *impl.Scope) { s.Objects = s.Objects[:9] },
		func(s *impl.Scope) { s.Objects = s.Objects[1:] },
		func(s *impl.Scope) { s.Objects = append(s.Objects, constOf("more", 0, 7), varOf("A", 0, 10)) },
		func(s *impl.Scope) {
			s.Objects = slices.DeleteFunc(s.Objects, func(o impl.Object) bool { return o.Mark == 0 })
		},
		func(s *impl.Scope) { s.Uses = nil },
		func(s *impl.Scope) { s.Imports, s.Uses = nil, nil },
		func(s *impl.Scope) { s.Imports = append(s.Imports, "Dd") },
		// Types that nothing shown reaches.
		func(s *impl.Scope) { s.Types[9].Fields = []impl.Field{field("q", 1, 1)} },
		func(s *impl.Scope) { s.Types[10].Base = -1 },
		func(s *impl.Scope) { s.Types[10].Owner, s.Types[10].Name = "A", "Own" },
		func(s *impl.Scope) { s.Types = append(s.Types, arrayOf(5, 10), pointerTo(11)) },
	} {
		s := changedScope(fullScope(), change)
		if !checkFingers(t, s) {
			t.Errorf("change %d makes the scope bad", i)
		}
		wantFingers(t, s, fingersOfFull())
		wantScopeFinger(t, s, 2509260297510458929, true)
	}
	// What is not shown has a finger of its own as an object.
	s := changedScope(fullScope(), func(s *impl.Scope) { s.Objects[0].Value = 1000 })
	if sum, ok := impl.ObjectFinger(s, 0); !ok || sum == objectsTold[0] {
		t.Error("the finger of a hidden object", sum, ok)
	}
}

// TestFingersOfWhatAModuleTells: where fields that are not shown have no names a scope has the fingers
// of what it tells to others; a name of such a field is mixed as any other.
func TestFingersOfWhatAModuleTells(t *testing.T) {
	for _, s := range append(exports(t), withoutHiddenNames(fullScope()), greatestScope()) {
		s = withoutHiddenNames(s)
		wantSameFingers(t, s, exportOf(t, s))
	}
	wantSameFingers(t, withoutHiddenNames(fullScope()), exportOfFull())
	s := fullScope()
	for _, name := range []string{"R", "find"} {
		sum, _ := impl.FingerAt(s, name)
		if other, ok := impl.FingerAt(exportOfFull(), name); !ok || other == sum {
			t.Error("the name of a field is not in the finger of", name)
		}
	}
}

func TestFingersTellObjectsApart(t *testing.T) {
	for i, w := range scopeChanges {
		s := changedScope(fullScope(), w.change)
		if checkFingers(t, s) != w.good {
			t.Errorf("change %d: good is %v", i, !w.good)
		}
		if w.good {
			wantObjectsToldApart(t, fullScope(), s)
		}
	}
	l := exports(t)
	for _, a := range l {
		for _, b := range l {
			wantObjectsToldApart(t, a, b)
			wantToldApart(t, a.Types, b.Types)
		}
	}
}

func TestFingersOfWhatIsNotGood(t *testing.T) {
	for _, l := range badTables() {
		wantNoRounds(t, l)
	}
	for _, w := range roundTypes {
		wantNoRounds(t, tableOf(w.others...))
		wantNoFingers(t, scopeOf(tableOf(w.others...), varOf("v", 1, 0)), []string{"v"})
	}
	wantNoRounds(t, tableOf(slices.Repeat([]impl.Type{recordOf(-1)}, 100000)...))
	for _, s := range badScopes() {
		wantNoFingers(t, s, []string{"R", "find", "hidden", "", "a b"})
	}
}

// callFingers calls each function of the chapter.
func callFingers(s impl.Scope, n int, name string) {
	impl.TextFinger(name)
	impl.RoundFingers(s.Types, n)
	impl.TypeFinger(s.Types, n)
	impl.ObjectFinger(s, n)
	impl.FingersOf(s)
	impl.ScopeFinger(s)
	impl.FingerAt(s, name)
}

func TestFingersWriteIntoNothing(t *testing.T) {
	turned := renumberedScope(fullScope(), []int{0, 1, 2, 10, 9, 8, 7, 6, 5, 4, 3})
	for i, s := range append(append(badScopes(), exports(t)...), fullScope(), turned, greatestScope()) {
		before := copyOfScope(s)
		for _, n := range []int{-1, 0, 1, 3, 8, 25, 26, math.MaxInt} {
			callFingers(s, n, "R")
		}
		if !reflect.DeepEqual(s, before) {
			t.Fatalf("scope %d is written into", i)
		}
	}
}

func TestWhatLiesBehindFingers(t *testing.T) {
	for _, s := range append(exports(t), fullScope()) {
		apart, same := laidApart(s)
		checkFingers(t, apart)
		checkRounds(t, apart.Types)
		wantSameFingers(t, apart, s)
		wantFingerAt(t, apart, "far", 0, false)
		wantTypeFinger(t, apart.Types, len(s.Types), 0, false)
		wantObjectFinger(t, apart, len(s.Objects), 0, false)
		callFingers(apart, 1, "R")
		if !same() {
			t.Errorf("what lies behind the lists of %v is written into", s)
		}
	}
}

func TestFingerAnswersAreNewMemory(t *testing.T) {
	s := withOwnTexts(fullScope())
	first, _ := impl.FingersOf(s)
	second, _ := impl.FingersOf(s)
	for _, f := range first {
		apartTexts(t, textsOf(s), f.Name)
	}
	clear(first[:cap(first)])
	if !slices.Equal(second, fingersOfFull()) || !sameByHand(s, fullScope()) {
		t.Error("the answer is kept", second)
	}
	for _, rounds := range []int{0, 1, 25} {
		one := roundsOf(t, s.Types, rounds)
		other := roundsOf(t, s.Types, rounds)
		kept := slices.Clone(other)
		clear(one[:cap(one)])
		if !slices.Equal(other, kept) {
			t.Error("numbers are kept", rounds)
		}
		wantRounds(t, s.Types, rounds, kept)
	}
}

// TestNothingIsKeptOfFingers changes scopes between calls, and asks from many sides at once.
func TestNothingIsKeptOfFingers(t *testing.T) {
	s := fullScope()
	wantFingers(t, s, fingersOfFull())
	s.Types[3].Fields[0].Name = "other"
	checkFingers(t, s)
	if sum, _ := impl.FingerAt(s, "R"); sum == objectsTold[3] {
		t.Error("the finger of a type that was there")
	}
	wantFingers(t, fullScope(), fingersOfFull())
	checkFingers(t, ringScope())
	checkFingers(t, greatestScope())
	wantFingers(t, fullScope(), fingersOfFull())
	for i := range 8 {
		t.Run("side", func(t *testing.T) {
			t.Parallel()
			for k := range 20 {
				if (i+k)%2 == 0 {
					wantFingers(t, fullScope(), fingersOfFull())
				} else {
					wantScopeFinger(t, ringScope(), 4040029536791588419, true)
				}
			}
		})
	}
}
