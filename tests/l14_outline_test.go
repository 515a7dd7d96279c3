package tests

import (
	"reflect"
	"slices"
	"strconv"
	"strings"
	"testing"

	"loop.example/g00837/impl"
)

// mostTold is how many bytes of a text are told. The document has no limit there, so that this is far
// above all that is asked for but in the tests of it.
const mostTold = 100000000

// typesTold have a text each, by their numbers.
var typesTold = []struct {
	of   impl.Type
	text string
}{
	3:  {calledSo(recordOf(-1, field("x", 1, 0), field("next", 0, 4)), "A", "R"), "A.R"},
	4:  {calledSo(pointerTo(3), "Other", "P"), "Other.P"},
	5:  {calledSo(arrayOf(7, 6), "abcdefghij", "KLMNOPQRST"), "abcdefghij.KLMNOPQRST"},
	6:  {recordOf(-1), "RECORD END"},
	7:  {recordOf(-1, field("x", 0, 0)), "RECORD x: INT END"},
	8:  {recordOf(-1, field("x", 1, 0), field("yy", 2, 1), field("abcdefghij", 0, 2)), "RECORD x*: INT; yy-: BOOL; abcdefghij: CHAR END"},
	9:  {recordOf(-1, field("", 0, 0)), "RECORD _: INT END"},
	10: {recordOf(-1, field("", 0, 0), field("a", 1, 3), field("", 0, 2), field("b", 2, 4)), "RECORD _: INT; a*: A.R; _: CHAR; b-: Other.P END"},
	11: {recordOf(3), "RECORD (A.R) END"},
	12: {recordOf(11, field("q", 2, 4)), "RECORD (RECORD (A.R) END) q-: Other.P END"},
	13: {recordOf(6), "RECORD (RECORD END) END"},
	14: {arrayOf(1, 0), "ARRAY 1 OF INT"},
	15: {arrayOf(1000, 14), "ARRAY 1000 OF ARRAY 1 OF INT"},
	16: {arrayOf(20, 3), "ARRAY 20 OF A.R"},
	17: {pointerTo(3), "POINTER TO A.R"},
	18: {pointerTo(6), "POINTER TO .."},
	19: {pointerTo(14), "POINTER TO .."},
	20: {pointerTo(5), "POINTER TO abcdefghij.KLMNOPQRST"},
	21: {arrayOf(3, 18), "ARRAY 3 OF POINTER TO .."},
	22: {recordOf(7, field("a", 1, 15), field("b", 0, 8), field("c", 2, 20)), "RECORD (RECORD x: INT END) a*: ARRAY 1000 OF ARRAY 1 OF INT; b: RECORD x*: INT; yy-: BOOL; abcdefghij: CHAR END; c-: POINTER TO abcdefghij.KLMNOPQRST END"},
	23: {arrayOf(2, 12), "ARRAY 2 OF RECORD (RECORD (A.R) END) q-: Other.P END"},
}

func tableTold() []impl.Type {
	l := impl.BaseTypes()
	for _, w := range typesTold[3:] {
		l = append(l, w.of)
	}
	return l
}

func TestTextsOfTypes(t *testing.T) {
	l := tableTold()
	for n, text := range []string{"INT", "BOOL", "CHAR"} {
		wantTypeText(t, l, n, text, true)
		wantTypeText(t, impl.BaseTypes(), n, text, true)
		wantTypeText(t, impl.BaseTypes(), n+3, "", false)
	}
	for n, w := range typesTold[3:] {
		wantTypeText(t, l, n+3, w.text, true)
	}
	if len(l) != impl.MaxTypes || !checkTypeTexts(t, l) {
		t.Error("the types that are told are not good")
	}
	// However they are numbered, and alone with what they reach.
	order := append([]int{0, 1, 2}, 23, 22, 21, 20, 19, 18, 17, 16, 15, 14, 13, 12, 11, 10, 9, 8, 7, 6, 5, 4, 3)
	turned := renumbered(l, order)
	for n := range l[3:] {
		wantTypeText(t, turned, order[n+3], typesTold[n+3].text, true)
	}
	for _, n := range outsideOf(l) {
		wantTypeText(t, l, n, "", false)
	}
	wantTypeText(t, l[:12], 11, "RECORD (A.R) END", true)
	wantTypeText(t, l[:12], 12, "", false)
	wantTypeText(t, append(l, recordOf(-1)), 3, "", false)
}

func TestNamesOfTypesAreTold(t *testing.T) {
	for _, owner := range goodNames {
		for _, name := range goodNames {
			for _, one := range []impl.Type{arrayOf(2, 0), recordOf(-1), recordOf(-1, field("a", 0, 0)), pointerTo(4)} {
				wantTypeText(t, tableOf(calledSo(one, owner, name), recordOf(-1)), 3, owner+"."+name, true)
			}
			l := tableOf(calledSo(recordOf(-1), owner, name), pointerTo(3), arrayOf(1, 3), recordOf(3, field(name, 0, 3)))
			wantTypeText(t, l, 4, "POINTER TO "+owner+"."+name, true)
			wantTypeText(t, l, 5, "ARRAY 1 OF "+owner+"."+name, true)
			wantTypeText(t, l, 6, "RECORD ("+owner+"."+name+") "+name+": "+owner+"."+name+" END", true)
			checkTypeTexts(t, l)
		}
	}
}

func TestTextsOfArrays(t *testing.T) {
	for _, long := range []int{1, 2, 9, 10, 11, 99, 100, 101, 255, 256, 999, 1000} {
		for n, base := range []string{"INT", "BOOL", "CHAR", "", "RECORD END", "POINTER TO ..", "A.B"} {
			if n != 3 {
				wantTypeText(t, tableOf(arrayOf(long, n), recordOf(-1), pointerTo(4), calledSo(pointerTo(4), "A", "B")), 3, "ARRAY "+strconv.Itoa(long)+" OF "+base, true)
			}
		}
	}
	for _, long := range []int{0, -1, 1001, 10000} {
		wantTypeText(t, tableOf(arrayOf(long, 0)), 3, "", false)
	}
	wantTypeText(t, nested(21, 12, 1), 3, strings.Repeat("ARRAY 12 OF ", 21)+"BOOL", true)
	wantTypeText(t, nested(21, 12, 1), 20, strings.Repeat("ARRAY 12 OF ", 4)+"BOOL", true)
}

// TestTextsOfFields has up to six of them, of each Mark and none in each place.
func TestTextsOfFields(t *testing.T) {
	for many := range impl.MaxFields + 1 {
		for first := range 4 {
			var fields []impl.Field
			var heads []string
			for k := range many {
				name := strings.Repeat(string(rune('a'+k)), k+1)
				mark := (first+k*k+k/2)%4 - 1
				head := "_"
				if mark < 0 {
					fields = append(fields, field("", 0, k%3))
				} else {
					fields = append(fields, field(name, mark, k%3))
					head = name + []string{"", "*", "-"}[mark]
				}
				heads = append(heads, " "+head+": "+[]string{"INT", "BOOL", "CHAR"}[k%3])
			}
			text := "RECORD" + strings.Join(heads, ";")
			wantTypeText(t, tableOf(recordOf(-1, fields...)), 3, text+" END", true)
			wantTypeText(t, tableOf(recordOf(4, fields...), recordOf(-1)), 3, strings.Replace(text, "RECORD", "RECORD (RECORD END)", 1)+" END", true)
			checkTypeTexts(t, tableOf(recordOf(-1, fields...)))
		}
	}
	wantTypeText(t, tableOf(recordOf(-1, slices.Repeat([]impl.Field{{}}, 6)...)), 3, "RECORD _: INT; _: INT; _: INT; _: INT; _: INT; _: INT END", true)
	wantTypeText(t, tableOf(recordOf(-1, slices.Repeat([]impl.Field{{}}, 7)...)), 3, "", false)
}

// TestTextsOfRings: types that name themselves, with names and without.
func TestTextsOfRings(t *testing.T) {
	l := tableOf(recordOf(-1, field("p", 0, 4)), pointerTo(3))
	wantTypeText(t, l, 3, "RECORD p: POINTER TO .. END", true)
	wantTypeText(t, l, 4, "POINTER TO ..", true)
	l = tableOf(arrayOf(5, 4), pointerTo(3))
	wantTypeText(t, l, 3, "ARRAY 5 OF POINTER TO ..", true)
	wantTypeText(t, l, 4, "POINTER TO ..", true)
	l = tableOf(recordOf(4, field("p", 1, 5), field("q", 2, 6)), recordOf(-1, field("p", 0, 5)), pointerTo(3), pointerTo(4))
	wantTypeText(t, l, 3, "RECORD (RECORD p: POINTER TO .. END) p*: POINTER TO ..; q-: POINTER TO .. END", true)
	for n, texts := range [][2]string{
		{"A.R", "POINTER TO A.R"}, {"RECORD p: A.P END", "A.P"}, {"A.R", "A.P"},
	} {
		l := tableOf(recordOf(-1, field("p", 0, 4)), pointerTo(3))
		if n != 1 {
			l[3] = calledSo(l[3], "A", "R")
		}
		if n != 0 {
			l[4] = calledSo(l[4], "A", "P")
		}
		wantTypeText(t, l, 3, texts[0], true)
		wantTypeText(t, l, 4, texts[1], true)
	}
	for many := 1; many <= 10; many++ {
		if !checkTypeTexts(t, ringOf(many, func(*impl.Type) {})) || !checkTypeTexts(t, arraysOf(slices.Repeat([]int{many}, many)...)) {
			t.Error("rings of types are not good", many)
		}
	}
	checkOutline(t, ringScope())
}

func TestTextsOfTypesThatAreNotGood(t *testing.T) {
	for i, l := range badTables() {
		if checkTypeTexts(t, l) {
			t.Errorf("bad table %d is good", i)
		}
	}
	for _, w := range roundTypes {
		checkTypeTexts(t, tableOf(w.others...))
	}
	long := tableOf(slices.Repeat([]impl.Type{recordOf(-1)}, 100000)...)
	for _, n := range []int{0, 3, 99999} {
		wantTypeText(t, long, n, "", false)
	}
	// All numbers of a table that is good but for its last type.
	l := append(tableTold()[:23], arrayOf(0, 0))
	for n := range l {
		wantTypeText(t, l, n, "", false)
	}
}

// textTold asks for the text of the only object of a scope.
func textTold(t *testing.T, o impl.Object, want string) {
	t.Helper()
	s := scopeOf(tableTold(), o)
	wantObjectText(t, s, 0, want, true)
	wantObjectText(t, s, 1, "", false)
	wantObjectText(t, s, -1, "", false)
	if o.Mark == 0 {
		wantOutline(t, s, "MODULE A\n", true)
	} else {
		wantOutline(t, s, "MODULE A\n"+want+"\n", true)
	}
	if !checkOutline(t, s) {
		t.Errorf("%v is not good", s)
	}
}

func TestTextsOfConsts(t *testing.T) {
	for value, text := range map[int]string{
		0: "0", 1: "1", 7: "7", -1: "-1", -10: "-10", 999999999: "999999999", -999999999: "-999999999", impl.MaxWhole: "1000000000", -impl.MaxWhole: "-1000000000",
	} {
		textTold(t, constOf("k", 0, value), "CONST k = "+text)
		textTold(t, constOf("longerName", 1, value), "CONST longerName* = "+text)
	}
	for _, name := range goodNames {
		textTold(t, constOf(name, 1, 3), "CONST "+name+"* = 3")
	}
}

func TestTextsOfTypesAndVars(t *testing.T) {
	for n := range impl.MaxTypes {
		text, _ := impl.TypeText(tableTold(), n)
		textTold(t, typeOf("T", 0, n), "TYPE T = "+text)
		textTold(t, typeOf("T", 1, n), "TYPE T* = "+text)
		textTold(t, varOf("v9", 0, n), "VAR v9: "+text)
		textTold(t, varOf("v9", 1, n), "VAR v9*: "+text)
		textTold(t, varOf("v9", 2, n), "VAR v9-: "+text)
		textTold(t, procOf("p", 0, n), "PROC p (): "+text)
		textTold(t, procOf("p", 1, -1, param("a", true, n)), "PROC p* (VAR a: "+text+")")
	}
	// In an outline a type is told by its name, also where it is declared.
	textTold(t, typeOf("R", 1, 3), "TYPE R* = A.R")
	textTold(t, typeOf("R", 0, 3), "TYPE R = A.R")
	textTold(t, varOf("R", 2, 3), "VAR R-: A.R")
}

func TestTextsOfProcs(t *testing.T) {
	for _, w := range []struct {
		of   impl.Object
		text string
	}{
		{procOf("p", 0, -1), "PROC p ()"},
		{procOf("p", 1, -1), "PROC p* ()"},
		{procOf("abcdefghij", 1, 0), "PROC abcdefghij* (): INT"},
		{procOf("p", 0, 3), "PROC p (): A.R"},
		{procOf("p", 0, -1, param("a", false, 0)), "PROC p (a: INT)"},
		{procOf("p", 1, -1, param("a", true, 0)), "PROC p* (VAR a: INT)"},
		{procOf("p", 0, 1, param("a", false, 4)), "PROC p (a: Other.P): BOOL"},
		{procOf("p", 0, 18, param("b", true, 21), param("a", false, 0)), "PROC p (VAR b: ARRAY 3 OF POINTER TO ..; a: INT): POINTER TO .."},
		{procOf("p", 0, -1, param("b", false, 0), param("a", true, 8)), "PROC p (b: INT; VAR a: RECORD x*: INT; yy-: BOOL; abcdefghij: CHAR END)"},
		{procOf("p", 1, 6, param("VAR", true, 0), param("p", false, 1), param("END", true, 2), param("A", true, 3)), "PROC p* (VAR VAR: INT; p: BOOL; VAR END: CHAR; VAR A: A.R): RECORD END"},
		{procOf("p", 1, -1, param("a", false, 0), param("b", false, 0), param("c", false, 0), param("d", false, 0)), "PROC p* (a: INT; b: INT; c: INT; d: INT)"},
	} {
		textTold(t, w.of, w.text)
	}
}

func TestOutlines(t *testing.T) {
	s := fullScope()
	wantOutline(t, s, `MODULE A
VAR list-: POINTER TO ..
CONST least* = -1000000000
TYPE R* = A.R
VAR free*: INT
PROC run* ()
PROC find* (VAR in: RECORD (A.R) y-: ARRAY 10 OF B.R; x*: BOOL END; by: CHAR): A.P
`, true)
	for n, text := range []string{
		"CONST hidden = -3", "VAR list-: POINTER TO ..", "CONST least* = -1000000000", "TYPE R* = A.R",
		"TYPE Own = RECORD (RECORD (A.R) y-: ARRAY 10 OF B.R; x*: BOOL END) _: POINTER TO ..; z: A.R END",
		"VAR free*: INT", "VAR own: RECORD END", "PROC run* ()",
		"PROC find* (VAR in: RECORD (A.R) y-: ARRAY 10 OF B.R; x*: BOOL END; by: CHAR): A.P",
		"PROC help (VAR by: RECORD (RECORD (A.R) y-: ARRAY 10 OF B.R; x*: BOOL END) _: POINTER TO ..; z: A.R END): RECORD END",
	} {
		wantObjectText(t, s, n, text, true)
	}
	// Without Imports and Uses, and as others see it, it has the same outline.
	for _, other := range []impl.Scope{exportOfFull(), changedScope(s, func(s *impl.Scope) { s.Imports, s.Uses = nil, nil }), changedScope(s, func(s *impl.Scope) { s.Uses = nil })} {
		text, _ := impl.OutlineText(s)
		wantOutline(t, other, text, true)
	}
	wantOutline(t, scopeOf(impl.BaseTypes()), "MODULE A\n", true)
	wantOutline(t, scopeOf(mixedTypes(), constOf("a", 0, 1), varOf("b", 0, 3)), "MODULE A\n", true)
	wantOutline(t, scopeOf(impl.BaseTypes(), constOf("a", 0, 1), constOf("b", 1, 2), constOf("c", 0, 3)), "MODULE A\nCONST b* = 2\n", true)
	wantOutline(t, scopeOf(impl.BaseTypes(), constOf("z", 1, 1), varOf("b", 0, 1), varOf("a", 2, 1)), "MODULE A\nCONST z* = 1\nVAR a-: BOOL\n", true)
	for _, name := range goodNames {
		wantOutline(t, impl.Scope{Name: name, Types: impl.BaseTypes(), Objects: []impl.Object{procOf(name, 1, -1)}}, "MODULE "+name+"\nPROC "+name+"* ()\n", true)
	}
	for _, one := range append(exports(t), greatestScope(), fullScope(), ringScope()) {
		if !checkOutline(t, one) {
			t.Errorf("%v is not good", one)
		}
	}
}

func TestTextsOfScopesThatAreNotGood(t *testing.T) {
	for i, s := range badScopes() {
		if checkOutline(t, s) {
			t.Errorf("bad scope %d is good", i)
		}
	}
	s := changedScope(fullScope(), func(s *impl.Scope) { s.Imports, s.Uses = nil, nil })
	for _, name := range badNames {
		wantNoTexts(t, changedScope(s, func(s *impl.Scope) { s.Name = name }))
		wantNoTexts(t, changedScope(s, func(s *impl.Scope) { s.Objects[0].Name = name }))
	}
	wantNoTexts(t, scopeOf(impl.BaseTypes(), make([]impl.Object, 100000)...))
	for _, n := range append([]int{-1, -2, 10, 11, 16, 17, 1 << 32}, farNumbers...) {
		wantObjectText(t, fullScope(), n, "", false)
	}
}

// scopeAlone tells the scope of a text that imports nothing.
func scopeAlone(t *testing.T, text string) impl.Scope {
	t.Helper()
	s, code, at, ok := impl.Compile(text, nil)
	if !ok {
		t.Fatalf("Compile(%q) tells %d at %d", text, code, at)
	}
	return s
}

// ownSources are modules that are their own sources.
var ownSources = []string{
	"MODULE A; END A.",
	"MODULE abcdefghij; VAR abcdefghij: INT; END abcdefghij.",
	"MODULE INT; TYPE R* = RECORD p: POINTER TO R END; END INT.",
	"MODULE A; CONST a = 0; CONST b* = 1; CONST c = -1; CONST d* = 999999999; CONST e = -999999999; CONST f = 10; END A.",
	"MODULE A; TYPE I = INT; TYPE B* = BOOL; TYPE C = CHAR; VAR i: INT; VAR b*: BOOL; VAR c-: CHAR; END A.",
	"MODULE A; TYPE R = RECORD END; TYPE S* = RECORD x: INT END; TYPE T = RECORD x: INT; y*: S; z-: R END; VAR r: R; VAR t*: T; END A.",
	"MODULE A; TYPE R = RECORD a*: INT END; TYPE S = RECORD (R) a-: R END; TYPE E* = RECORD (S) END; VAR v: RECORD (E) b: S END; END A.",
	"MODULE A; TYPE L = ARRAY 1 OF INT; TYPE M* = ARRAY 1000 OF ARRAY 20 OF L; VAR v-: ARRAY 3 OF M; VAR w: ARRAY 2 OF ARRAY 2 OF RECORD x: L END; END A.",
	// Another name for a type that has one.
	"MODULE A; TYPE R = RECORD END; TYPE S* = R; TYPE T = R; VAR v: R; END A.",
	// Pointers to what is there, to what comes later, to itself, and to what has no name.
	"MODULE A; TYPE R = RECORD END; TYPE P* = POINTER TO R; VAR v: POINTER TO R; END A.",
	"MODULE A; TYPE P = POINTER TO R; TYPE R = RECORD next: P; back: POINTER TO R; all: ARRAY 2 OF POINTER TO L END; TYPE L = ARRAY 5 OF R; VAR v: POINTER TO A; TYPE A = RECORD END; END A.",
	"MODULE A; TYPE R = ARRAY 1 OF INT; TYPE P* = POINTER TO RECORD x: INT; r: R END; END A.",
	"MODULE A; VAR v: POINTER TO ARRAY 3 OF CHAR; VAR w*: POINTER TO RECORD END; TYPE R = RECORD END; TYPE P = POINTER TO RECORD (R) END; END A.",
	"MODULE A; TYPE R = RECORD END; VAR w: POINTER TO RECORD (R) x: POINTER TO ARRAY 7 OF POINTER TO RECORD y*: POINTER TO R; z: POINTER TO L END END; TYPE L* = ARRAY 1 OF INT; END A.",
	"MODULE A; VAR v: POINTER TO ARRAY 1 OF POINTER TO ARRAY 2 OF POINTER TO ARRAY 3 OF INT; END A.",
	// Procs of all sorts.
	"MODULE A; PROC p (); PROC q* (): INT; PROC r (a: INT); PROC s* (VAR a: INT): BOOL; PROC t (b: CHAR; VAR a: ARRAY 2 OF CHAR; VAR INT: BOOL; A: RECORD a: INT END): POINTER TO RECORD END; END A.",
	"MODULE A; PROC f (p: POINTER TO R; q: POINTER TO ARRAY 2 OF POINTER TO R); TYPE R = RECORD END; END A.",
	"MODULE B; CONST k* = 4; TYPE R* = RECORD a*: INT; p: POINTER TO R END; VAR v*: R; VAR w: INT; END B.",
	// Sixteen objects, and twenty-one types of its own.
	"MODULE A; VAR a: INT; VAR b: INT; VAR c: INT; VAR d: INT; VAR e: INT; VAR f: INT; VAR g: INT; VAR h: INT; VAR i: INT; VAR j: INT; VAR k: INT; VAR l: INT; VAR m: INT; VAR n: INT; VAR o: INT; VAR p: INT; END A.",
	"MODULE A; VAR a: " + strings.Repeat("ARRAY 2 OF ", 21) + "INT; END A.",
	"MODULE A; VAR a: " + strings.Repeat("POINTER TO ARRAY 2 OF ", 10) + "RECORD END; END A.",
	"MODULE A; VAR a: " + strings.Repeat("RECORD r: ", 21) + "INT" + strings.Repeat(" END", 21) + "; END A.",
	"MODULE A; VAR a: RECORD a: RECORD END; b: RECORD c: RECORD END; d: RECORD END END; e: POINTER TO RECORD f: RECORD END; g: ARRAY 3 OF RECORD END END END; END A.",
}

func TestOwnSources(t *testing.T) {
	for _, text := range ownSources {
		s := scopeAlone(t, text)
		wantSource(t, s, text, true)
		if !checkOutline(t, s) || !checkSource(t, s) || !checkShownIn(t, text) {
			t.Errorf("%q has no source by form", text)
		}
	}
}

func TestSourcesOfModules(t *testing.T) {
	for _, w := range [][2]string{
		{"MODULE A;END A.", "MODULE A; END A."},
		{" MODULE(* so *)A ;\nCONST k*=\n  0FFH ;END A. (* . *)", "MODULE A; CONST k* = 255; END A."},
		{"MODULE A; CONST a = 7; CONST b* = - - a; CONST c = (a - 9) * b DIV 4; CONST d = c MOD 3; CONST e = 0 - 0; END A.", "MODULE A; CONST a = 7; CONST b* = 7; CONST c = -4; CONST d = 2; CONST e = 0; END A."},
		{"MODULE A; CONST a = 500000000 * 2 - 1; CONST b = -a; CONST c = 9FFFFFFH; END A.", "MODULE A; CONST a = 999999999; CONST b = -999999999; CONST c = 167772159; END A."},
		{"MODULE A; CONST n = 3; TYPE T = ARRAY n * n OF INT; VAR v: ARRAY -(-n) OF T; END A.", "MODULE A; CONST n = 3; TYPE T = ARRAY 9 OF INT; VAR v: ARRAY 3 OF T; END A."},
		{"MODULE A; VAR v: INT; USE v; PROC p(); USE p; USE v; END A.", "MODULE A; VAR v: INT; PROC p (); END A."},
		// What has two names is told by that with which it was declared.
		{"MODULE A; TYPE R = RECORD END; TYPE S = R; TYPE T = S; VAR v: S; VAR w: RECORD (T) x: S END; PROC p (a: T): S; END A.", "MODULE A; TYPE R = RECORD END; TYPE S = R; TYPE T = R; VAR v: R; VAR w: RECORD (R) x: R END; PROC p (a: R): R; END A."},
		{"MODULE A; TYPE I = INT; TYPE J* = I; VAR v: J; END A.", "MODULE A; TYPE I = INT; TYPE J* = INT; VAR v: INT; END A."},
		{"MODULE A; VAR v: POINTER TO S; TYPE R = RECORD p: POINTER TO S END; TYPE S = R; END A.", "MODULE A; VAR v: POINTER TO R; TYPE R = RECORD p: POINTER TO R END; TYPE S = R; END A."},
	} {
		s := scopeAlone(t, w[0])
		wantSource(t, s, w[1], true)
		wantSource(t, scopeAlone(t, w[1]), w[1], true)
		if !checkSource(t, s) {
			t.Errorf("%q has no source by form", w[0])
		}
	}
}

// TestNumbersWithoutAText: a constant of MaxWhole comes of an expression, and no number can be so great.
func TestNumbersWithoutAText(t *testing.T) {
	for value, good := range map[int]bool{
		0: true, 1: true, -1: true, 999999999: true, -999999999: true, 99999999: true, -100000000: true, impl.MaxWhole: false, -impl.MaxWhole: false,
	} {
		for mark, sign := range []string{"", "*"} {
			s := scopeOf(impl.BaseTypes(), constOf("k", mark, value))
			text := "MODULE A; CONST k" + sign + " = " + strconv.Itoa(value) + "; END A."
			if !good {
				text = ""
			}
			wantSource(t, s, text, good)
			if checkOutline(t, s); checkSource(t, s) != good {
				t.Errorf("by form %v has a source, or not", s)
			}
		}
	}
	for _, text := range []string{"MODULE A; CONST e* = 999999999 + 1; END A.", "MODULE A; CONST e = -999999999 - 1; END A.", "MODULE A; VAR v: INT; CONST e = 500000000; CONST f = e + e; END A."} {
		wantSource(t, scopeAlone(t, text), "", false)
		checkOutline(t, scopeAlone(t, text))
	}
}

// TestScopesWithoutASource have good scopes that no text tells.
func TestScopesWithoutASource(t *testing.T) {
	r := calledSo(recordOf(-1, field("x", 1, 0), field("p", 0, 4)), "A", "R")
	own := scopeOf(tableOf(r, pointerTo(3), arrayOf(2, 1)), typeOf("R", 1, 3), varOf("v", 2, 5), procOf("f", 0, 3, param("a", true, 0)))
	wantSource(t, own, "MODULE A; TYPE R* = RECORD x*: INT; p: POINTER TO R END; VAR v-: ARRAY 2 OF BOOL; PROC f (VAR a: INT): R; END A.", true)
	for n, change := range []func(s *impl.Scope){
		// Types that nothing reaches.
		func(s *impl.Scope) { s.Types = append(s.Types, arrayOf(2, 0)) },
		func(s *impl.Scope) { s.Types = append(s.Types, calledSo(arrayOf(2, 0), "A", "Z")) },
		func(s *impl.Scope) { s.Objects = append(s.Objects[:1], s.Objects[2]) },
		// A type that is declared by no object of its name.
		func(s *impl.Scope) { s.Objects = s.Objects[1:] },
		func(s *impl.Scope) { s.Objects = s.Objects[2:] },
		func(s *impl.Scope) { s.Types[3].Name = "S" },
		func(s *impl.Scope) { s.Objects[0].Name = "S" },
		func(s *impl.Scope) { s.Objects[0].Name = "r" },
		func(s *impl.Scope) { s.Objects[0] = varOf("R", 1, 3) },
		func(s *impl.Scope) { s.Objects[0] = procOf("R", 1, 3) },
		func(s *impl.Scope) { s.Types[5] = calledSo(s.Types[5], "A", "L") },
		func(s *impl.Scope) { s.Types[4] = calledSo(s.Types[4], "A", "P") },
		// And one that is declared, but has no name.
		func(s *impl.Scope) { s.Types[3].Owner, s.Types[3].Name = "", "" },
		func(s *impl.Scope) { s.Objects = append(s.Objects, typeOf("L", 0, 5)) },
		func(s *impl.Scope) { s.Objects[1] = typeOf("L", 0, 5) },
		// Types of others.
		func(s *impl.Scope) { s.Types[3].Owner = "B" },
		func(s *impl.Scope) { s.Types[3].Owner = "a" },
		func(s *impl.Scope) { s.Name = "B" },
		func(s *impl.Scope) { s.Types[5] = calledSo(s.Types[5], "B", "L") },
		// In another order.
		func(s *impl.Scope) { s.Objects[0], s.Objects[2] = s.Objects[2], s.Objects[0] },
		func(s *impl.Scope) { s.Objects[0], s.Objects[1] = s.Objects[1], s.Objects[0] },
		func(s *impl.Scope) { *s = renumberedScope(*s, []int{0, 1, 2, 4, 3, 5}) },
		func(s *impl.Scope) { *s = renumberedScope(*s, []int{0, 1, 2, 3, 5, 4}) },
		func(s *impl.Scope) { *s = renumberedScope(*s, []int{0, 1, 2, 5, 4, 3}) },
		// Two of one type without a name.
		func(s *impl.Scope) { s.Objects = append(s.Objects, varOf("w", 0, 5)) },
		func(s *impl.Scope) { s.Objects[2].Type = 5 },
		func(s *impl.Scope) { s.Objects[2].Params[0].Type = 5 },
		func(s *impl.Scope) { s.Types[3].Fields[0].Type = 5 },
		func(s *impl.Scope) { s.Types[3].Fields[0].Type = 4 },
		func(s *impl.Scope) { s.Objects = append(s.Objects, varOf("w", 0, 4)) },
		// Names that no text has.
		func(s *impl.Scope) { s.Types[3].Fields[1].Name = "" },
		func(s *impl.Scope) { s.Types[3].Fields[0].Name, s.Types[3].Fields[0].Mark = "", 0 },
		func(s *impl.Scope) { s.Types[3].Fields[0].Name = "END" },
		func(s *impl.Scope) { s.Objects[2].Params[0].Name = "VAR" },
		func(s *impl.Scope) { s.Objects[2].Name = "PROC" },
		func(s *impl.Scope) { s.Objects[1].Name = "MOD" },
		func(s *impl.Scope) { s.Objects[0].Name, s.Types[3].Name = "TYPE", "TYPE" },
		func(s *impl.Scope) { s.Name, s.Types[3].Owner = "MODULE", "MODULE" },
		func(s *impl.Scope) { s.Objects[1].Name = "INT" },
		func(s *impl.Scope) { s.Objects[2].Name = "CHAR" },
		func(s *impl.Scope) { s.Objects[0].Name, s.Types[3].Name = "BOOL", "BOOL" },
	} {
		s := changedScope(own, change)
		if !scopeByForm(s) {
			t.Errorf("change %d makes the scope bad", n)
		}
		wantSource(t, s, "", false)
		checkOutline(t, s)
	}
	// A param without a name is in no good scope.
	wantNoTexts(t, changedScope(own, func(s *impl.Scope) { s.Objects[2].Params[0].Name = "" }))
	// What is otherwise and has a source all the same.
	for n, w := range []struct {
		change func(s *impl.Scope)
		text   string
	}{
		{func(s *impl.Scope) { s.Types[3].Fields[1].Name = "INT" }, "MODULE A; TYPE R* = RECORD x*: INT; INT: POINTER TO R END; VAR v-: ARRAY 2 OF BOOL; PROC f (VAR a: INT): R; END A."},
		{func(s *impl.Scope) { s.Objects[2].Params[0].Name = "A" }, "MODULE A; TYPE R* = RECORD x*: INT; p: POINTER TO R END; VAR v-: ARRAY 2 OF BOOL; PROC f (VAR A: INT): R; END A."},
		{func(s *impl.Scope) { s.Name, s.Types[3].Owner = "v", "v" }, "MODULE v; TYPE R* = RECORD x*: INT; p: POINTER TO R END; VAR v-: ARRAY 2 OF BOOL; PROC f (VAR a: INT): R; END v."},
		{func(s *impl.Scope) { s.Objects[0].Name, s.Types[3].Name = "A", "A" }, "MODULE A; TYPE A* = RECORD x*: INT; p: POINTER TO A END; VAR v-: ARRAY 2 OF BOOL; PROC f (VAR a: INT): A; END A."},
		{func(s *impl.Scope) { s.Objects[2].Type = -1 }, "MODULE A; TYPE R* = RECORD x*: INT; p: POINTER TO R END; VAR v-: ARRAY 2 OF BOOL; PROC f (VAR a: INT); END A."},
		{func(s *impl.Scope) { s.Objects[2].Type, s.Types[5].Base = 2, 3 }, "MODULE A; TYPE R* = RECORD x*: INT; p: POINTER TO R END; VAR v-: ARRAY 2 OF R; PROC f (VAR a: INT): CHAR; END A."},
		{func(s *impl.Scope) { s.Types[4].Base = 5; s.Objects[1].Type = 3 }, "MODULE A; TYPE R* = RECORD x*: INT; p: POINTER TO ARRAY 2 OF BOOL END; VAR v-: R; PROC f (VAR a: INT): R; END A."},
		{func(s *impl.Scope) { s.Objects[1] = typeOf("L", 0, 5); s.Types[5] = calledSo(s.Types[5], "A", "L") }, "MODULE A; TYPE R* = RECORD x*: INT; p: POINTER TO R END; TYPE L = ARRAY 2 OF BOOL; PROC f (VAR a: INT): R; END A."},
		{func(s *impl.Scope) { s.Objects = append(s.Objects, typeOf("S", 0, 3), typeOf("T", 1, 1)) }, "MODULE A; TYPE R* = RECORD x*: INT; p: POINTER TO R END; VAR v-: ARRAY 2 OF BOOL; PROC f (VAR a: INT): R; TYPE S = R; TYPE T* = BOOL; END A."},
	} {
		s := changedScope(own, w.change)
		wantSource(t, s, w.text, true)
		if !checkOutline(t, s) || !checkSource(t, s) {
			t.Errorf("by form there is no source behind change %d", n)
		}
	}
}

// TestSourcesOfRingsWithoutNames: their text has no end.
func TestSourcesOfRingsWithoutNames(t *testing.T) {
	for _, l := range [][]impl.Type{
		tableOf(recordOf(-1, field("p", 0, 4)), pointerTo(3)),
		tableOf(pointerTo(4), recordOf(-1, field("p", 0, 3))),
		tableOf(pointerTo(4), arrayOf(2, 3)),
		tableOf(recordOf(-1, field("p", 0, 4), field("q", 0, 6)), pointerTo(5), arrayOf(2, 6), pointerTo(3)),
		tableOf(recordOf(-1, field("p", 0, 4)), pointerTo(5), recordOf(3)),
		ringOf(8, func(*impl.Type) {}),
	} {
		for n := range l[3:] {
			for _, o := range []impl.Object{varOf("v", 0, n+3), typeOf("T", 1, n+3), procOf("p", 0, n+3), procOf("p", 0, -1, param("a", false, n+3))} {
				s := scopeOf(l, o)
				wantSource(t, s, "", false)
				if !checkOutline(t, s) {
					t.Errorf("%v is not good", s)
				}
			}
		}
	}
	// With a name in it the text of a ring has an end; but only behind POINTER TO may a name come later.
	wantSource(t, scopeOf(tableOf(calledSo(pointerTo(4), "A", "P"), recordOf(-1, field("p", 0, 3))), typeOf("P", 0, 3)), "", false)
	wantSource(t, scopeOf(tableOf(calledSo(recordOf(-1, field("p", 0, 4)), "A", "R"), pointerTo(3)), typeOf("R", 0, 3)), "MODULE A; TYPE R = RECORD p: POINTER TO R END; END A.", true)
}

// TestSourcesOfImports: what imports or uses something has no source.
func TestSourcesOfImports(t *testing.T) {
	plain := scopeOf(impl.BaseTypes(), constOf("k", 1, 3))
	wantSource(t, plain, "MODULE A; CONST k* = 3; END A.", true)
	for _, w := range []struct {
		imports []string
		uses    string
	}{{[]string{"B"}, ""}, {[]string{"B", "C", "D", "E"}, ""}, {[]string{"B"}, "B.x"}, {[]string{"C", "B"}, "B.x C.y B.z"}} {
		s := changedScope(plain, func(s *impl.Scope) { s.Imports, s.Uses = w.imports, usesOf(w.uses) })
		if !impl.GoodScope(s) {
			t.Errorf("%v is not good", s)
		}
		wantSource(t, s, "", false)
		wantOutline(t, s, "MODULE A\nCONST k* = 3\n", true)
		checkOutline(t, s)
	}
	// Uses of nothing that is imported are none of a good scope.
	wantNoTexts(t, changedScope(plain, func(s *impl.Scope) { s.Uses = usesOf("B.x") }))
	wantSource(t, changedScope(plain, func(s *impl.Scope) { s.Imports, s.Uses = []string{}, []impl.Use{} }), "MODULE A; CONST k* = 3; END A.", true)
	for _, text := range takingTexts {
		s, _, _, ok := impl.Compile(text, shown(t))
		wantSource(t, s, "", false)
		if checkOutline(t, s) != ok {
			t.Errorf("%q is taken, or not", text)
		}
		wantNamesShown(t, text, nil, false)
	}
}

// longSource tells a module of which the source has that many bytes, from 1170 on.
func longSource(t *testing.T, long int) (string, impl.Scope) {
	t.Helper()
	text := "MODULE A;"
	for n := range 10 {
		name := string(rune('a'+n)) + "procName9"
		text += " PROC " + name + " (VAR abcdefghij: CHAR; VAR bcdefghijk: CHAR; VAR cdefghijkl: CHAR; VAR defghijklm: CHAR): CHAR;"
	}
	// ` VAR v: INT;` has 12 bytes, with a longer name up to 21.
	over := long - len(text) - len(" END A.")
	many := (over + 20) / 21
	for n := range many {
		bytes := (over + n) / many
		text += " VAR " + strings.Repeat(string(rune('k'+n)), bytes-11) + ": INT;"
	}
	text += " END A."
	s, ok := scopeByParts(text)
	if len(text) != long || !ok {
		t.Fatalf("%q has %d bytes", text, len(text))
	}
	return text, s
}

// scopeByParts tells the scope of a text that may be too long for Compile, and has no types of its own:
// object by object.
func scopeByParts(text string) (impl.Scope, bool) {
	s := scopeOf(impl.BaseTypes())
	parts := strings.Split(strings.TrimSuffix(strings.TrimPrefix(text, "MODULE A; "), "; END A."), "; ")
	for i := 0; i < len(parts); i++ {
		decl := parts[i]
		for strings.Contains(decl, "(") && !strings.Contains(decl, ")") {
			i++
			decl += "; " + parts[i]
		}
		one, _, _, ok := impl.Compile("MODULE A; "+decl+"; END A.", nil)
		if !ok {
			return s, false
		}
		s.Objects = append(s.Objects, one.Objects...)
	}
	return s, impl.GoodScope(s)
}

func TestLongestSources(t *testing.T) {
	for long := 1170; long <= 1200; long++ {
		text, s := longSource(t, long)
		wantSource(t, s, text, true)
		if !checkSource(t, s) || !sameByHand(scopeAlone(t, text), s) {
			t.Errorf("no source of %d bytes", long)
		}
	}
	for _, long := range []int{1201, 1202, 1203, 1210, 1230, 1240} {
		_, s := longSource(t, long)
		wantSource(t, s, "", false)
		if !checkOutline(t, s) {
			t.Errorf("%v is not good", s)
		}
	}
	// A text that fits, and a source of it that does not: blanks are put in.
	_, s := longSource(t, 1201)
	text, _ := outlineByHand(changedScope(s, func(s *impl.Scope) {
		for i := range s.Objects {
			s.Objects[i].Mark = 1
		}
	}))
	short := strings.NewReplacer("MODULE A\n", "MODULE A;", "\n", ";", "*", "", ": ", ":", "; ", ";", " (", "(").Replace(text) + "END A."
	if !sameByHand(scopeAlone(t, short), s) {
		t.Error(short)
	}
	// All that a scope can have.
	wantSource(t, greatestScope(), "", false)
}

// TestSourcesOfMaxTokens: 300 tokens are taken, and 301 are not.
func TestSourcesOfMaxTokens(t *testing.T) {
	text := "MODULE A;"
	for n := range 11 {
		text += " PROC " + string(rune('a'+n)) + " (VAR a: INT; VAR b: INT; VAR c: INT; VAR d: INT): INT;"
	}
	for _, w := range []struct {
		behind string
		tokens int
	}{
		{" TYPE T = ARRAY 1 OF INT; END A.", 300}, {" TYPE T* = ARRAY 1 OF INT; END A.", 301},
		{" CONST x = 1; END A.", 297}, {" CONST x* = -1; END A.", 299}, {" VAR v: ARRAY 9 OF CHAR; END A.", 300}, {" VAR v-: ARRAY 9 OF CHAR; END A.", 301},
		{" VAR v: ARRAY 9 OF CHAR; VAR w: INT; END A.", 305},
	} {
		types, other, _ := strings.Cut(w.behind, "; ")
		s, ok := scopeByParts(text + " END A.")
		one := scopeAlone(t, "MODULE A;"+types+"; "+strings.TrimSuffix(other, "END A.")+"END A.")
		s.Types = one.Types
		s.Objects = append(s.Objects, one.Objects...)
		l, _, _, read := impl.ReadTokens(text + w.behind)
		if !ok || !impl.GoodScope(s) || read != (w.tokens <= 300) || read && len(l) != w.tokens {
			t.Fatal(w.behind, len(l), read)
		}
		if w.tokens <= 300 {
			wantSource(t, s, text+w.behind, true)
		} else {
			wantSource(t, s, "", false)
		}
		checkOutline(t, s)
	}
	// The source of a text of 300 tokens may have more: a number below 0 that is told by a name.
	text = strings.Replace(text, "MODULE A;", "MODULE A; CONST x = -1; CONST y = x;", 1)
	text = strings.Replace(text, "VAR d: INT", "d: INT", 1)
	text = strings.Replace(text, "VAR c: INT", "c: INT", 1)
	text = strings.Replace(text, "VAR b: INT", "b: INT", 1)
	s := scopeAlone(t, text+" END A.")
	if l := tokensOf(t, text+" END A."); len(l) != 300 {
		t.Error(len(l))
	}
	wantSource(t, s, "", false)
	s = scopeAlone(t, strings.Replace(text, "VAR a: INT", "a: INT", 1)+" END A.")
	wantSource(t, s, strings.Replace(strings.Replace(text, "VAR a: INT", "a: INT", 1), "y = x", "y = -1", 1)+" END A.", true)
}

// TestSourcesOfExports: what a module tells to others is a module of its own where all types that it
// reaches are shown, and so are their fields.
func TestSourcesOfExports(t *testing.T) {
	for _, w := range [][2]string{
		{"MODULE A; CONST k = 3; CONST j* = k; VAR h: INT; END A.", "MODULE A; CONST j* = 3; END A."},
		{"MODULE A; TYPE H = RECORD END; TYPE R* = RECORD x*: INT; y-: POINTER TO R END; VAR v*: R; VAR w: H; END A.", "MODULE A; TYPE R* = RECORD x*: INT; y-: POINTER TO R END; VAR v*: R; END A."},
		{"MODULE A; TYPE R = RECORD END; TYPE S = R; VAR a-: ARRAY 2 OF INT; PROC p* (VAR x: RECORD END); END A.", "MODULE A; VAR a-: ARRAY 2 OF INT; PROC p* (VAR x: RECORD END); END A."},
		// A field that is hidden, a type that is hidden, and types that are met in another order.
		{"MODULE A; TYPE R* = RECORD x*: INT; y: INT END; END A.", ""},
		{"MODULE A; TYPE R = RECORD END; VAR v*: R; END A.", ""},
		{"MODULE A; VAR v*: POINTER TO R; TYPE R* = RECORD END; END A.", "MODULE A; VAR v*: POINTER TO R; TYPE R* = RECORD END; END A."},
		{"MODULE A; VAR h: POINTER TO R; TYPE R* = RECORD END; END A.", "MODULE A; TYPE R* = RECORD END; END A."},
		{"MODULE A; VAR v*: POINTER TO R; VAR w*: ARRAY 2 OF INT; TYPE R* = RECORD END; END A.", ""},
	} {
		s := exportOf(t, scopeAlone(t, w[0]))
		wantSource(t, s, w[1], w[1] != "")
		if !checkOutline(t, s) || checkSource(t, s) != (w[1] != "") {
			t.Errorf("by form %v has a source, or not", s)
		}
	}
}

func TestNamesShown(t *testing.T) {
	for _, w := range [][2]string{
		{"MODULE A; END A.", ""},
		{"MODULE A; CONST a = 1; VAR b: INT; END A.", ""},
		{"MODULE A; CONST a* = 1; VAR b: INT; VAR c-: INT; PROC d* (); TYPE e* = INT; PROC f (); TYPE G = RECORD x*: INT END; END A.", "a c d e"},
		{"MODULE A;VAR z*:INT;VAR Z-:INT;VAR m:INT;VAR a*:INT;END A.", "z Z a"},
		{"MODULE A; (* VAR a*: INT; *) VAR b*: INT; END A. (* VAR c*: INT; *)", "b"},
		{"MODULE A; CONST e* = 999999999 + 1; END A.", "e"},
	} {
		wantNamesShown(t, w[0], strings.Fields(w[1]), true)
		if !checkShownIn(t, w[0]) {
			t.Errorf("%q is not taken", w[0])
		}
	}
	for _, text := range []string{
		"", " ", "?", "\xff", "MODULE", "MODULE A; END B.", "MODULE A; END A", "MODULE A; END A. END", "MODULE A; IMPORT B; END A.", "MODULE A; IMPORT A; END A.", "MODULE A; IMPORT B; VAR v*: B.R; END A.",
		"MODULE A; VAR v*: R; END A.", "MODULE A; VAR v*: INT; VAR v*: INT; END A.", "MODULE A; VAR v*: POINTER TO R; END A.", "MODULE A; CONST k- = 1; END A.", "MODULE A; CONST k* = 1000000000; END A.", "MODULE A; USE x; END A.",
		"MODULE A; VAR v*: INT; END A. (*", "module A; VAR v*: INT; END A.", strings.Repeat("x", 5000), "MODULE A; VAR v*: INT; END A." + strings.Repeat(" ", 1200),
	} {
		wantNamesShown(t, text, nil, false)
		if checkShownIn(t, text) {
			t.Errorf("%q is taken", text)
		}
	}
	for _, text := range ownSources {
		checkShownIn(t, text)
		for n := 0; n < len(text); n += 7 {
			checkShownIn(t, text[:n])
		}
	}
	longest, s := longSource(t, 1200)
	names, _ := impl.ShownNames(s)
	wantNamesShown(t, longest, names, true)
	wantNamesShown(t, longest+" ", nil, false)
	sixteen := "MODULE A; "
	for _, name := range longNames(16, "n") {
		sixteen += "VAR " + name + "*: INT; "
	}
	wantNamesShown(t, sixteen+"END A.", longNames(16, "n"), true)
	wantNamesShown(t, sixteen+"VAR a*: INT; END A.", nil, false)
}

// twice tells records each of which has two fields of the next one, the last one of which is as said, and
// the text of the first one.
func twice(deep int, last impl.Type, text string) ([]impl.Type, string) {
	l := impl.BaseTypes()
	for range deep {
		l = append(l, recordOf(-1, field("a", 0, len(l)+1), field("b", 0, len(l)+1)))
		text = "RECORD a: " + text + "; b: " + text + " END"
	}
	return append(l, last), text
}

// ofLength tells types of which the first one has a text of so many bytes, and that text.
func ofLength(long int) ([]impl.Type, string) {
	// `RECORD a: x; b: x END` has 19 bytes but for x, and with a longer name one more.
	var firsts []string
	for long > 111 {
		first := "a"
		if (long-19)%2 != 0 {
			first = "aa"
		}
		long = (long - 18 - len(first)) / 2
		firsts = append(firsts, first)
	}
	// `RECORD END` has 10 bytes, and each field with a `;` from 8 on, up to 17.
	last, text := recordOf(-1), ""
	left := long - 9
	many := (left + 16) / 17
	for n := range many {
		name := strings.Repeat(string(rune('p'+n)), (left+n)/many-7)
		last.Fields = append(last.Fields, field(name, 0, 0))
		text += " " + name + ": INT;"
	}
	text = "RECORD" + strings.TrimSuffix(text, ";")
	text += " END"
	l := impl.BaseTypes()
	for _, first := range firsts {
		l = append(l, recordOf(-1, field(first, 0, len(l)+1), field("b", 0, len(l)+1)))
	}
	slices.Reverse(firsts)
	for _, first := range firsts {
		text = "RECORD " + first + ": " + text + "; b: " + text + " END"
	}
	return append(l, last), text
}

// sameLong asks for two texts that may be too long to be printed.
func sameLong(t *testing.T, what string, got string, ok bool, want string) {
	t.Helper()
	if got != want || ok != (want != "") {
		t.Errorf("%s has %d bytes, %v, want %d", what, len(got), ok, len(want))
	}
}

// TestTypesToldInVeryManyPlaces: a type that others tell again and again.
func TestTypesToldInVeryManyPlaces(t *testing.T) {
	l, text := twice(20, recordOf(-1), "RECORD END")
	got, ok := impl.TypeText(l, 3)
	sameLong(t, "a record", got, ok, text)
	s := scopeOf(l, typeOf("T", 1, 3), varOf("v", 0, 3))
	got, ok = impl.ObjectText(s, 0)
	sameLong(t, "an object", got, ok, "TYPE T* = "+text)
	got, ok = impl.OutlineText(s)
	sameLong(t, "an outline", got, ok, "MODULE A\nTYPE T* = "+text+"\n")
	wantSource(t, s, "", false)
	// Of each of these the next one is told seven times, and no memory holds the text of the first one.
	l = manyWays()
	long := len("RECORD END")
	for n := impl.MaxTypes - 1; n >= 3; n-- {
		got, ok := impl.TypeText(l, n)
		if good := long <= mostTold; ok != good || good && len(got) != long || !good && got != "" {
			t.Errorf("TypeText of type %d has %d bytes, %v, want %d", n, len(got), ok, long)
		}
		long = min(48+7*long, 1<<50)
	}
	for _, o := range []impl.Object{typeOf("T", 1, 3), varOf("v", 1, 3), procOf("p", 1, 3), procOf("p", 1, -1, param("a", false, 0), param("b", false, 3))} {
		s := scopeOf(l, o, constOf("k", 1, 1))
		wantObjectText(t, s, 0, "", false)
		wantObjectText(t, s, 1, "CONST k* = 1", true)
		wantOutline(t, s, "", false)
		wantSource(t, s, "", false)
		s.Objects[0].Mark = 0
		wantOutline(t, s, "MODULE A\nCONST k* = 1\n", true)
	}
	// All of them together are more bytes than a number of the language can count.
	full := scopeOf(l)
	for n, name := range longNames(impl.MaxObjects, "p") {
		full.Objects = append(full.Objects, procOf(name, 1, 3, param("a", true, 3), param("b", false, 3), param("c", true, 3), param("d", false, 3)))
		wantObjectText(t, full, n, "", false)
		wantOutline(t, full, "", false)
		wantSource(t, full, "", false)
	}
	// Behind a pointer it is not told, but in a source.
	wantTypeText(t, append(l[:22:22], recordOf(-1), pointerTo(3)), 23, "POINTER TO ..", true)
	wantSource(t, scopeOf(append(l[:22:22], recordOf(-1), pointerTo(3)), varOf("v", 0, 23)), "", false)
}

// TestTheLongestTexts are those of as many bytes as are told, and of one more.
func TestTheLongestTexts(t *testing.T) {
	for _, long := range []int{17, 24, 25, 26, 33, 34, 35, 50, 61, 100, 119, 120, 121, 122, 1000, 5001} {
		l, text := ofLength(long)
		wantTypeText(t, l, 3, text, true)
		if len(text) != long || !checkTypeTexts(t, l) {
			t.Errorf("the text of %d bytes has %d", long, len(text))
		}
	}
	for over := range 2 {
		l, text := ofLength(mostTold + over)
		got, ok := impl.TypeText(l, 3)
		sameLong(t, "the longest type", got, ok, []string{text, ""}[over])
		l, text = ofLength(mostTold - len("VAR v-: ") + over)
		got, ok = impl.ObjectText(scopeOf(l, varOf("v", 2, 3)), 0)
		sameLong(t, "the longest object", got, ok, []string{"VAR v-: " + text, ""}[over])
		l, text = ofLength(mostTold - len("MODULE A\nVAR v-: \n") + over)
		s := scopeOf(l, varOf("v", 2, 3), varOf("w", 0, 3))
		got, ok = impl.OutlineText(s)
		sameLong(t, "the longest outline", got, ok, []string{"MODULE A\nVAR v-: " + text + "\n", ""}[over])
		s.Objects[1].Mark = 1
		got, ok = impl.OutlineText(s)
		sameLong(t, "twice the longest", got, ok, "")
	}
}

func TestOutlinesWriteIntoNothing(t *testing.T) {
	scopes := append(append(badScopes(), exports(t)...), fullScope(), greatestScope(), ringScope(), scopeOf(manyWays(), varOf("v", 1, 3)))
	for _, text := range ownSources {
		scopes = append(scopes, scopeAlone(t, text))
	}
	for i, s := range scopes {
		before := copyOfScope(s)
		for n := -1; n <= min(len(s.Types), 25); n++ {
			callOutline(s, n, "MODULE A; VAR v*: INT; END A.")
		}
		if !reflect.DeepEqual(s, before) {
			t.Fatalf("scope %d is written into", i)
		}
	}
}

func TestWhatLiesBehindOutlines(t *testing.T) {
	scopes := append(exports(t), fullScope())
	for _, text := range ownSources {
		scopes = append(scopes, scopeAlone(t, text))
	}
	for _, plain := range scopes {
		s, same := laidApart(plain)
		if !checkOutline(t, s) || !checkTypeTexts(t, s.Types) {
			t.Errorf("%v is not good", s)
		}
		text, ok := impl.SourceText(plain)
		wantSource(t, s, text, ok)
		if !same() {
			t.Errorf("what lies behind the lists of %v is written into", s)
		}
	}
}

func TestOutlinesAreNewMemory(t *testing.T) {
	for _, plain := range append(exports(t), fullScope(), scopeAlone(t, ownSources[len(ownSources)-1]), scopeOf(tableTold(), typeOf("R", 1, 3), constOf("k", 1, 3))) {
		s := withOwnTexts(plain)
		given := textsOf(s)
		for n := range s.Types {
			first, _ := impl.TypeText(s.Types, n)
			second, _ := impl.TypeText(s.Types, n)
			apartTexts(t, append(given, s.Types[n].Name, s.Types[n].Owner, second), first)
		}
		for n := range s.Objects {
			first, _ := impl.ObjectText(s, n)
			second, _ := impl.ObjectText(s, n)
			apartTexts(t, append(given, second), first)
		}
		first, _ := impl.OutlineText(s)
		second, _ := impl.OutlineText(s)
		apartTexts(t, append(given, second), first)
		first, _ = impl.SourceText(s)
		second, _ = impl.SourceText(s)
		apartTexts(t, append(given, second), first)
	}
	text := strings.Clone("MODULE A; VAR name*: INT; CONST other* = 3; END A.")
	first, _ := impl.NamesShown(text)
	second, _ := impl.NamesShown(text)
	apart(t, first, second)
	apartTexts(t, []string{text}, first...)
	clear(first[:cap(first)])
	if !slices.Equal(second, []string{"name", "other"}) {
		t.Error("an answer is kept", second)
	}
}

// TestNothingIsKeptOfOutlines changes a scope between calls, and asks from many sides at once.
func TestNothingIsKeptOfOutlines(t *testing.T) {
	s := scopeOf(tableOf(calledSo(recordOf(-1, field("x", 1, 0)), "A", "R")), typeOf("R", 1, 3))
	source := "MODULE A; TYPE R* = RECORD x*: INT END; END A."
	wantSource(t, s, source, true)
	s.Types[3].Fields[0].Mark = 2
	wantSource(t, s, "MODULE A; TYPE R* = RECORD x-: INT END; END A.", true)
	s.Types[3].Name = "S"
	wantSource(t, s, "", false)
	wantTypeText(t, s.Types, 3, "A.S", true)
	s.Types[3].Owner, s.Types[3].Name = "", ""
	wantOutline(t, s, "MODULE A\nTYPE R* = RECORD x-: INT END\n", true)
	wantSource(t, s, "", false)
	s.Name = "B"
	s.Types[3] = calledSo(s.Types[3], "B", "R")
	wantSource(t, s, "MODULE B; TYPE R* = RECORD x-: INT END; END B.", true)
	s.Imports = []string{"B"}
	wantNoTexts(t, s)
	s.Imports[0] = "C"
	wantOutline(t, s, "MODULE B\nTYPE R* = B.R\n", true)
	wantSource(t, s, "", false)
	s.Imports = nil
	told := tableTold()
	for i := range 8 {
		t.Run("side", func(t *testing.T) {
			t.Parallel()
			for k := range 20 {
				switch n := 3 + (i+k)%21; k % 3 {
				case 0:
					wantTypeText(t, told, n, typesTold[n].text, true)
				case 1:
					wantSource(t, s, "MODULE B; TYPE R* = RECORD x-: INT END; END B.", true)
				default:
					wantObjectText(t, s, 0, "TYPE R* = B.R", true)
				}
			}
		})
	}
}
