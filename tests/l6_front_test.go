package tests

import (
	"math"
	"reflect"
	"slices"
	"strconv"
	"strings"
	"testing"

	"loop.example/g00837/impl"
)

// modsOf tells what modules show that are compiled one by one, each against those ahead of it.
func modsOf(t *testing.T, texts ...string) []impl.Scope {
	t.Helper()
	var mods []impl.Scope
	for _, text := range texts {
		s, code, at, ok := impl.Compile(text, mods)
		if !ok {
			t.Fatalf("Compile(%q) tells %d at %d", text, code, at)
		}
		mods = append(mods, exportOf(t, s))
	}
	return mods
}

// withBetween tells a text with other blanks and remarks between its tokens, and where the token of a
// place stands in it, or its end, where no token begins there.
func withBetween(text string, at int, between string) (string, int) {
	l, _, _, _ := impl.ReadTokens(text)
	other := between
	place := -1
	for _, token := range l {
		if token.At == at {
			place = len(other)
		}
		other += token.Text + between
	}
	if place < 0 {
		place = len(other)
	}
	return other, place
}

// betweens part tokens, none of which runs into another one where only the first of these does.
var betweens = []string{" ", "\n", " (* so (* it *) is ?%^ *)\n", "(**) "}

// wantAccepted asks for a scope, and for what promise 6 says of it.
func wantAccepted(t *testing.T, text string, mods []impl.Scope) impl.Scope {
	t.Helper()
	s, code, at, ok := impl.Compile(text, mods)
	if code != 0 || at != 0 || !ok || !impl.GoodScope(s) {
		t.Errorf("Compile(%q) = %v, %d, %d, %v", text, s, code, at, ok)
		return s
	}
	for _, between := range betweens {
		other, _ := withBetween(text, -1, between)
		if len(other) > impl.MaxText {
			continue
		}
		if got, code, at, ok := impl.Compile(other, mods); !ok || !sameByHand(got, s) {
			t.Errorf("Compile(%q) = %v, %d, %d, %v, want %v", other, got, code, at, ok, s)
		}
	}
	wantTakenAlike(t, s, mods)
	if len(text) < impl.MaxText-20 && len(tokensOf(t, text)) < impl.MaxTokens-5 {
		wantCutOff(t, text, mods)
	}
	if names, ok := impl.ImportsIn(text); !ok || !slices.Equal(names, s.Imports) {
		t.Errorf("ImportsIn(%q) = %v, %v", text, names, ok)
	}
	return s
}

// wantTakenAlike asks that each type with another owner is one of a module's, and alike.
func wantTakenAlike(t *testing.T, s impl.Scope, mods []impl.Scope) {
	t.Helper()
	for n, one := range s.Types {
		if one.Owner == "" || one.Owner == s.Name {
			continue
		}
		found := false
		for _, m := range mods {
			for k, other := range m.Types {
				if other.Owner == one.Owner && other.Name == one.Name {
					is, ok := impl.SameTypes(s.Types, n, m.Types, k)
					found = found || is && ok
				}
			}
		}
		if !found {
			t.Errorf("%v of %v is like no type of a module", one, s)
		}
	}
}

// wantCutOff asks that a text that is taken can not end ahead of its last token, nor go on behind it.
func wantCutOff(t *testing.T, text string, mods []impl.Scope) {
	t.Helper()
	l, _, _, _ := impl.ReadTokens(text)
	cut := ""
	for n, token := range l {
		// Ahead of a dot one name alone would be looked up, so that nothing is cut there but the end.
		if token.Text != "." || n == len(l)-1 {
			wantRefused(t, cut, mods, 20, len(cut))
			wantRefused(t, cut+" (* . *) ", mods, 20, len(cut)+9)
		}
		cut = text[:token.At+len(token.Text)]
	}
	for _, more := range []string{".", "A", "END", "7", "VAR w: INT;"} {
		wantRefused(t, cut+" "+more, mods, 20, len(cut)+1)
	}
}

func wantRefused(t *testing.T, text string, mods []impl.Scope, code, at int) {
	t.Helper()
	s, why, place, ok := impl.Compile(text, mods)
	if why != code || place != at || ok || !reflect.DeepEqual(withoutEmpty(s), impl.Scope{}) {
		t.Errorf("Compile(%q) = %v, %d, %d, %v, want %d, %d", text, s, why, place, ok, code, at)
	}
}

// wantScope asks that a text is taken as a scope that is written down.
func wantScope(t *testing.T, text string, mods []impl.Scope, want impl.Scope) {
	t.Helper()
	if got := wantAccepted(t, text, mods); !sameByHand(got, want) {
		t.Errorf("Compile(%q) = %v, want %v", text, got, want)
	}
}

// wantCode asks for a code at the place of the ^ in a text, however its tokens are parted.
func wantCode(t *testing.T, code int, text string, mods []impl.Scope) {
	t.Helper()
	ahead, rest, ok := strings.Cut(text, "^")
	if !ok {
		t.Fatalf("no place in %q", text)
	}
	text = ahead + rest
	wantRefused(t, text, mods, code, len(ahead))
	for _, between := range betweens {
		if other, at := withBetween(text, len(ahead), between); len(other) <= impl.MaxText {
			wantRefused(t, other, mods, code, at)
		}
	}
}

func inA(decls string) string {
	return "MODULE A; " + decls + " END A."
}

func TestFrontConstantsAreAsTold(t *testing.T) {
	if impl.MaxMods != 8 {
		t.Error(impl.MaxMods)
	}
}

func TestSmallModules(t *testing.T) {
	wantScope(t, "MODULE A; END A.", nil, scopeOf(impl.BaseTypes()))
	wantScope(t, "MODULE INT;END INT.", nil, impl.Scope{Name: "INT", Types: impl.BaseTypes()})
	for _, name := range goodNames {
		if impl.IsWord(name) || slices.Contains([]string{"INT", "BOOL", "CHAR"}, name) {
			continue
		}
		wantScope(t, "MODULE "+name+"; VAR "+name+": INT; END "+name+".", nil,
			impl.Scope{Name: name, Types: impl.BaseTypes(), Objects: []impl.Object{varOf(name, 0, 0)}})
	}
}

func TestConstsAreRead(t *testing.T) {
	wantScope(t, inA("CONST a = 3; CONST b* = -a; CONST c* = (a + 4) * b DIV 2; CONST d = 0FFH MOD 10 - - c; CONST e = 999999999 + 1; CONST f = 0 - e;"), nil,
		scopeOf(impl.BaseTypes(), constOf("a", 0, 3), constOf("b", 1, -3), constOf("c", 1, -11), constOf("d", 0, -6), constOf("e", 0, impl.MaxWhole), constOf("f", 0, -impl.MaxWhole)))
	mods := modsOf(t, "MODULE B; CONST k* = 7; CONST j* = 0 - 5; CONST hid = 1; END B.", "MODULE C; CONST k* = 70; END C.")
	want := scopeOf(impl.BaseTypes(), constOf("k", 0, 72), constOf("l", 0, 7))
	want.Imports = []string{"C", "B"}
	want.Uses = []impl.Use{{Mod: "B", Name: "k"}, {Mod: "B", Name: "j"}, {Mod: "C", Name: "k"}}
	wantScope(t, "MODULE A; IMPORT C, B; CONST k = B.k + B.j + C.k; CONST l = B.k + (k - k) * C.k; END A.", mods, want)
}

func TestTypesAreRead(t *testing.T) {
	wantScope(t, inA("TYPE T* = INT; TYPE U = T; VAR a-: U; VAR b: BOOL; VAR c*: CHAR;"), nil,
		scopeOf(impl.BaseTypes(), typeOf("T", 1, 0), typeOf("U", 0, 0), varOf("a", 2, 0), varOf("b", 0, 1), varOf("c", 1, 2)))
	// Each one is ahead of its parts; one that is told at once behind its name is called so.
	wantScope(t, inA("TYPE T* = ARRAY 2 OF ARRAY 3 OF RECORD x*: ARRAY 4 OF CHAR; y-: POINTER TO RECORD END; z: BOOL END; TYPE U = T; VAR v: T; VAR w: ARRAY 1 OF U;"), nil,
		scopeOf(tableOf(
			calledSo(arrayOf(2, 4), "A", "T"), // 3
			arrayOf(3, 5),                     // 4
			recordOf(-1, field("x", 1, 6), field("y", 2, 7), field("z", 0, 1)), // 5
			arrayOf(4, 2),  // 6
			pointerTo(8),   // 7
			recordOf(-1),   // 8
			arrayOf(1, 3)), // 9
			typeOf("T", 1, 3), typeOf("U", 0, 3), varOf("v", 0, 3), varOf("w", 0, 9)))
	wantScope(t, inA("TYPE R = RECORD a*: INT; b-: INT END; TYPE S* = RECORD (R) a: R END; TYPE E = RECORD END; TYPE F = RECORD (E) END; VAR x: RECORD (S) a: S; A: F END;"), nil,
		scopeOf(tableOf(
			calledSo(recordOf(-1, field("a", 1, 0), field("b", 2, 0)), "A", "R"),
			calledSo(recordOf(3, field("a", 0, 3)), "A", "S"),
			calledSo(recordOf(-1), "A", "E"),
			calledSo(recordOf(5), "A", "F"),
			recordOf(4, field("a", 0, 4), field("A", 0, 6))),
			typeOf("R", 0, 3), typeOf("S", 1, 4), typeOf("E", 0, 5), typeOf("F", 0, 6), varOf("x", 0, 7)))
}

func TestProcsAreRead(t *testing.T) {
	wantScope(t, inA("PROC p (); PROC q* (): INT; PROC r (a: INT; VAR b: ARRAY 2 OF CHAR; p: RECORD p: BOOL END; VAR A: BOOL): POINTER TO RECORD END; PROC s* (VAR INT: CHAR);"), nil,
		scopeOf(tableOf(arrayOf(2, 2), recordOf(-1, field("p", 0, 1)), pointerTo(6), recordOf(-1)),
			procOf("p", 0, -1), procOf("q", 1, 0),
			procOf("r", 0, 5, param("a", false, 0), param("b", true, 3), param("p", false, 4), param("A", true, 1)),
			procOf("s", 1, -1, param("INT", true, 2))))
}

func TestPointersNameWhatComesLater(t *testing.T) {
	wantScope(t, inA("TYPE P* = POINTER TO R; TYPE R* = RECORD next*: P; back: POINTER TO R; all: ARRAY 2 OF POINTER TO L END; TYPE L = ARRAY 5 OF R; VAR v: POINTER TO R; VAR w: POINTER TO A; TYPE A = RECORD END;"), nil,
		scopeOf(tableOf(
			calledSo(pointerTo(4), "A", "P"), // 3
			calledSo(recordOf(-1, field("next", 1, 3), field("back", 0, 5), field("all", 0, 6)), "A", "R"), // 4
			pointerTo(4),                      // 5
			arrayOf(2, 7),                     // 6
			pointerTo(8),                      // 7
			calledSo(arrayOf(5, 4), "A", "L"), // 8
			pointerTo(4),                      // 9
			pointerTo(11),                     // 10
			calledSo(recordOf(-1), "A", "A")), // 11
			typeOf("P", 1, 3), typeOf("R", 1, 4), typeOf("L", 0, 8), varOf("v", 0, 9), varOf("w", 0, 10), typeOf("A", 0, 11)))
	// What is declared later may be a name of a type that was there, and one of another module.
	mods := modsOf(t, "MODULE B; TYPE R* = RECORD END; END B.")
	want := scopeOf(tableOf(pointerTo(5), pointerTo(5), calledSo(recordOf(-1), "B", "R")), varOf("v", 0, 3), varOf("w", 0, 4), typeOf("S", 0, 5), typeOf("T", 0, 5))
	want.Imports = []string{"B"}
	want.Uses = []impl.Use{{Mod: "B", Name: "R"}}
	wantScope(t, "MODULE A; IMPORT B; VAR v: POINTER TO T; VAR w: POINTER TO S; TYPE S = B.R; TYPE T = S; END A.", mods, want)
	for _, w := range []struct {
		code  int
		decls string
	}{
		{30, "VAR v: POINTER TO ^X;"},
		{30, "TYPE P = POINTER TO ^X; TYPE Y = RECORD X: INT END; PROC q (X: INT);"},
		{30, "VAR v: POINTER TO ^B;"},
		{32, "VAR v: POINTER TO ^k; CONST k = 1;"},
		{32, "VAR v: POINTER TO ^k; VAR k: RECORD END;"},
		{32, "VAR v: POINTER TO ^k; PROC k (): RECORD END;"},
		{32, "VAR v: POINTER TO ^T; TYPE T = INT;"},
		{32, "TYPE P = POINTER TO ^P;"},
		{32, "TYPE P = POINTER TO ^Q; TYPE Q = POINTER TO R; TYPE R = RECORD END;"},
		{32, "TYPE P = POINTER TO Q; TYPE Q = POINTER TO ^P;"},
		{32, "TYPE R = RECORD p: POINTER TO R; q: POINTER TO ^Q END; TYPE Q = POINTER TO R;"},
		// Pointer by pointer: the first one that was read.
		{30, "VAR v: RECORD a: POINTER TO R; b: POINTER TO ^X; c: POINTER TO k END; VAR w: POINTER TO Y; CONST k = 1; TYPE R = RECORD END;"},
		{32, "VAR v: RECORD a: POINTER TO R; b: POINTER TO ^k; c: POINTER TO X END; VAR w: POINTER TO Y; CONST k = 1; TYPE R = RECORD END;"},
		// What is declared already is asked at once, INT likewise.
		{32, "CONST k = 1; VAR v: POINTER TO ^k; VAR w: X;"},
		{32, "TYPE T = BOOL; VAR v: POINTER TO ^T; VAR w: X;"},
		{32, "TYPE R = RECORD END; TYPE P = POINTER TO R; VAR v: POINTER TO ^P; VAR w: X;"},
		{32, "VAR v: POINTER TO ^INT; VAR w: X;"},
		{32, "VAR v: POINTER TO ^BOOL; VAR w: X;"},
		{32, "VAR v: POINTER TO ^CHAR; VAR w: X;"},
		{32, "VAR v: POINTER TO ^POINTER TO RECORD END; VAR w: X;"},
		{32, "VAR v: POINTER TO ^POINTER TO Later; VAR w: X;"},
		{31, "VAR v: POINTER TO POINTER TO RECORD a: INT; ^a: INT END;"},
		{32, "VAR v: POINTER TO POINTER TO ^INT;"},
		{32, "VAR v: ARRAY 2 OF POINTER TO ^POINTER TO ARRAY 3 OF INT;"},
		// All else is met ahead of what is looked up behind all tokens.
		{30, "VAR v: POINTER TO X; VAR w: ^Y;"},
	} {
		wantCode(t, w.code, "MODULE A; IMPORT B; "+w.decls+" END A.", mods)
	}
	wantCode(t, 21, "MODULE A; VAR v: POINTER TO X; END ^B.", nil)
	wantCode(t, 20, "MODULE A; VAR v: POINTER TO X; END A^", nil)
	wantCode(t, 20, "MODULE A; VAR v: POINTER TO X; END A. ^;", nil)
	wantCode(t, 20, "MODULE A; VAR v: POINTER TO X ^END A.", nil)
}

// shown are modules of which most tests take something.
func shown(t *testing.T) []impl.Scope {
	return modsOf(t,
		"MODULE B; CONST k* = 2; CONST h = 3; TYPE R* = RECORD a*: INT; p: POINTER TO R END; TYPE S* = RECORD (R) b-: ARRAY 2 OF R END; TYPE I* = CHAR; TYPE L* = ARRAY 3 OF S; TYPE H = RECORD END; VAR v*: R; VAR h2: H; PROC f* (x: S): INT; END B.",
		"MODULE C; IMPORT B; TYPE T* = POINTER TO B.L; TYPE A* = B.R; CONST k* = 5; VAR h: INT; END C.")
}

func TestTypesAreTakenOver(t *testing.T) {
	r := calledSo(recordOf(-1, field("a", 1, 0), field("", 0, 5)), "B", "R")
	want := scopeOf(tableOf(arrayOf(2, 4), r, pointerTo(4)), varOf("x", 0, 3), varOf("y", 0, 4))
	want.Imports = []string{"B"}
	want.Uses = []impl.Use{{Mod: "B", Name: "k"}, {Mod: "B", Name: "R"}, {Mod: "B", Name: "v"}}
	wantScope(t, "MODULE A; IMPORT B; VAR x: ARRAY B.k OF B.R; VAR y: B.R; USE B.v; USE B.R; USE B.k; USE x; END A.", shown(t), want)
	// A type, what its Base is, what its Fields are; and so on.
	want = scopeOf(tableOf(
		recordOf(4, field("c", 1, 2)),                                       // 3
		calledSo(recordOf(5, field("b", 2, 7)), "B", "S"),                   // 4
		calledSo(recordOf(-1, field("a", 1, 0), field("", 0, 6)), "B", "R"), // 5
		pointerTo(5),                      // 6
		arrayOf(2, 5),                     // 7
		calledSo(pointerTo(9), "C", "T"),  // 8
		calledSo(arrayOf(3, 4), "B", "L"), // 9
		calledSo(recordOf(-1), "A", "R")), // 10
		varOf("x", 0, 3), varOf("y", 0, 8), typeOf("R", 0, 10), varOf("z", 0, 9), typeOf("Q", 0, 5))
	want.Imports = []string{"C", "B"}
	want.Uses = []impl.Use{{Mod: "B", Name: "S"}, {Mod: "B", Name: "I"}, {Mod: "C", Name: "T"}, {Mod: "B", Name: "L"}, {Mod: "C", Name: "A"}}
	wantScope(t, "MODULE A; IMPORT C, B; VAR x: RECORD (B.S) c*: B.I END; VAR y: C.T; TYPE R = RECORD END; VAR z: B.L; TYPE Q = C.A; END A.", shown(t), want)
	// What is only used is not taken over.
	want = scopeOf(impl.BaseTypes())
	want.Imports = []string{"B"}
	want.Uses = []impl.Use{{Mod: "B", Name: "S"}, {Mod: "B", Name: "f"}}
	wantScope(t, "MODULE A; IMPORT B; USE B.S; USE B.f; USE B.S; END A.", shown(t), want)
}

// TestTypesWithoutANameAreTakenAnew: only what has a name is held to be what is there.
func TestTypesWithoutANameAreTakenAnew(t *testing.T) {
	mods := []impl.Scope{{Name: "B", Types: tableOf(arrayOf(4, 4), recordOf(-1)), Objects: []impl.Object{typeOf("L", 1, 3), typeOf("E", 1, 4)}}}
	want := scopeOf(tableOf(arrayOf(4, 4), recordOf(-1), arrayOf(4, 6), recordOf(-1), recordOf(-1)), varOf("x", 0, 3), varOf("y", 0, 5), varOf("z", 0, 7))
	want.Imports = []string{"B"}
	want.Uses = []impl.Use{{Mod: "B", Name: "L"}, {Mod: "B", Name: "E"}}
	wantScope(t, "MODULE A; IMPORT B; VAR x: B.L; VAR y: B.L; VAR z: B.E; END A.", mods, want)
}

// TestTypesComeRound: what another module tells of this module's own types must be as it is here.
func TestTypesComeRound(t *testing.T) {
	first := "MODULE A; TYPE R* = RECORD a*: INT; b*: ARRAY 2 OF CHAR END; VAR v*: R; END A."
	mods := modsOf(t, first, "MODULE B; IMPORT A; TYPE P* = POINTER TO A.R; TYPE Q* = RECORD (A.R) p*: P END; END B.")
	want := scopeOf(tableOf(
		calledSo(recordOf(-1, field("a", 1, 0), field("b", 1, 4)), "A", "R"),
		arrayOf(2, 2),
		calledSo(recordOf(3, field("p", 1, 6)), "B", "Q"),
		calledSo(pointerTo(3), "B", "P")),
		typeOf("R", 1, 3), varOf("q", 0, 5), varOf("p", 0, 6))
	want.Imports = []string{"B"}
	want.Uses = []impl.Use{{Mod: "B", Name: "Q"}, {Mod: "B", Name: "P"}}
	wantScope(t, "MODULE A; IMPORT B; TYPE R* = RECORD a*: INT; b*: ARRAY 2 OF CHAR END; VAR q: B.Q; VAR p: B.P; END A.", mods, want)
	for _, decls := range []string{
		// Not there yet, or not by that name.
		"VAR p: ^B.P; TYPE R = RECORD a*: INT; b*: ARRAY 2 OF CHAR END;",
		"TYPE S = RECORD a*: INT; b*: ARRAY 2 OF CHAR END; VAR p: ^B.P;",
		"CONST R = 1; VAR p: ^B.P;",
		// Otherwise.
		"TYPE R = RECORD a*: INT; b*: ARRAY 3 OF CHAR END; VAR p: ^B.P;",
		"TYPE R = RECORD a*: INT; b: ARRAY 2 OF CHAR END; VAR p: ^B.P;",
		"TYPE R = RECORD a*: INT END; VAR p: ^B.P;",
		"TYPE R = RECORD a*: INT; b*: ARRAY 2 OF CHAR; c: INT END; VAR p: ^B.P;",
		"TYPE R = ARRAY 2 OF CHAR; VAR p: ^B.P;",
		"TYPE R = INT; VAR p: ^B.P;",
		"TYPE S = RECORD a*: INT; b*: ARRAY 2 OF CHAR END; TYPE R = S; VAR p: ^B.P;",
		// Not read to its end yet: it may come to be otherwise.
		"TYPE R = RECORD a*: INT; b*: ARRAY 2 OF CHAR; c*: ^B.P END;",
		"TYPE R = RECORD (^B.Q) a*: INT; b*: ARRAY 2 OF CHAR END;",
		"TYPE R = POINTER TO ^B.Q;",
		"TYPE R = ARRAY 2 OF ^B.P;",
	} {
		wantCode(t, 36, "MODULE A; IMPORT B; "+decls+" END A.", mods)
	}
	// One whose pointers are looked up behind all is not known to be alike by then.
	round := "TYPE R* = RECORD a*: INT; next*: POINTER TO R END;"
	mods = modsOf(t, inA(round), "MODULE B; IMPORT A; TYPE P* = POINTER TO A.R; END B.")
	wantCode(t, 36, "MODULE A; IMPORT B; "+round+" VAR p: ^B.P; END A.", mods)
	mods = modsOf(t, inA("TYPE E* = RECORD END; TYPE R* = RECORD a*: POINTER TO E END;"), "MODULE B; IMPORT A; TYPE P* = POINTER TO A.R; END B.")
	wantAccepted(t, "MODULE A; IMPORT B; TYPE E* = RECORD END; TYPE R* = RECORD a*: POINTER TO E END; VAR p: B.P; END A.", mods)
	wantCode(t, 36, "MODULE A; IMPORT B; TYPE R* = RECORD a*: POINTER TO E END; VAR p: ^B.P; TYPE E* = RECORD END; END A.", mods)
	wantCode(t, 36, "MODULE A; IMPORT B; TYPE R* = RECORD a*: POINTER TO E END; TYPE E* = RECORD END; VAR p: ^B.P; END A.", mods)
}

// TestOtherVersions: two modules tell of one type of a third one, alike or otherwise.
func TestOtherVersions(t *testing.T) {
	c := "MODULE C; TYPE R* = RECORD a*: INT END; END C."
	d := "MODULE C; TYPE R* = RECORD a*: CHAR END; END C."
	of := func(name string) string {
		return "MODULE " + name + "; IMPORT C; TYPE P* = POINTER TO C.R; TYPE Q* = RECORD x*: INT; p*: P END; END " + name + "."
	}
	same := modsOf(t, c, of("B"), of("D"))
	other := append(slices.Clone(same[:2]), modsOf(t, d, of("D"))[1])
	want := scopeOf(tableOf(
		calledSo(pointerTo(4), "B", "P"), calledSo(recordOf(-1, field("a", 1, 0)), "C", "R"),
		calledSo(recordOf(-1, field("x", 1, 0), field("p", 1, 6)), "D", "Q"), calledSo(pointerTo(4), "D", "P")),
		varOf("b", 0, 3), varOf("d", 0, 5), varOf("c", 0, 4))
	want.Imports = []string{"B", "C", "D"}
	want.Uses = []impl.Use{{Mod: "B", Name: "P"}, {Mod: "D", Name: "Q"}, {Mod: "C", Name: "R"}}
	wantScope(t, "MODULE A; IMPORT B, C, D; VAR b: B.P; VAR d: D.Q; VAR c: C.R; END A.", same, want)
	wantCode(t, 36, "MODULE A; IMPORT B, C, D; VAR b: B.P; VAR d: ^D.Q; VAR c: C.R; END A.", other)
	wantCode(t, 36, "MODULE A; IMPORT B, C, D; VAR d: D.Q; VAR c: ^C.R; END A.", other)
	wantCode(t, 36, "MODULE A; IMPORT B, C, D; VAR d: D.Q; VAR x: ARRAY 2 OF RECORD b: ^B.P END; END A.", other)
	wantAccepted(t, "MODULE A; IMPORT B, C, D; VAR d: D.Q; USE B.P; USE C.R; VAR e: D.P; END A.", other)
}

func TestTextsThatAreNoTokens(t *testing.T) {
	mods := shown(t)
	ahead := "MODULE A; VAR v: X; VAR VAR; END B. "
	for _, w := range []struct {
		code int
		text string
	}{
		{12, ahead + "^(* a (* b *)"},
		{13, ahead + "^abcdefghijk"},
		{13, ahead + "^12X"},
		{14, ahead + "^?"},
		{14, "^\x00" + ahead},
		{12, "^(*" + ahead},
		{13, inA("CONST k = ^1234567890; CONST l = ?; (*")},
		{14, inA("CONST k = ^{; CONST l = 1234567890; (*")},
	} {
		at := strings.Index(w.text, "^")
		wantRefused(t, strings.Replace(w.text, "^", "", 1), mods, w.code, at)
	}
	wantRefused(t, ahead+strings.Repeat(" ", impl.MaxText+1-len(ahead)), mods, 11, 0)
	wantRefused(t, ahead+strings.Repeat("?", impl.MaxText), mods, 11, 0)
	wantRefused(t, ahead+strings.Repeat(";", impl.MaxTokens), mods, 15, 0)
	wantRefused(t, strings.Repeat(";", impl.MaxTokens+1), nil, 15, 0)
	wantRefused(t, strings.Repeat(";", impl.MaxTokens), nil, 20, 0)
	// As many bytes, and as many tokens, as can be.
	text := inA("VAR v: INT;")
	wantAccepted(t, text+strings.Repeat(" ", impl.MaxText-len(text)), nil)
	wantRefused(t, text+strings.Repeat(" ", impl.MaxText+1-len(text)), nil, 11, 0)
	most := inA("CONST k* = " + strings.Repeat("(", 144) + "1" + strings.Repeat(")", 144) + ";")
	more := strings.Replace(most, "1", "-1", 1)
	if n := len(tokensOf(t, most)); n != impl.MaxTokens {
		t.Fatal("tokens", n)
	}
	wantAccepted(t, most, nil)
	wantRefused(t, more, nil, 15, 0)
}

func TestNoModule(t *testing.T) {
	for _, text := range []string{
		"^", "^;", "^A", "^IMPORT B;", "^END A.", "^module A; END A.", "^MODUL A; END A.",
		"MODULE ^; END A.", "MODULE ^7; END A.", "MODULE ^END; END END.", "MODULE ^MODULE A; END A.", "MODULE A^",
		"MODULE A ^END A.", "MODULE A ^, END A.", "MODULE A ^. END A.", "MODULE A; ^; END A.", "MODULE A; ^A. END A.",
		"MODULE A; ^MODULE A; END A.", "MODULE A; ^INT END A.", "MODULE A; ^x: INT; END A.", "MODULE A; ^DIV END A.",
		"MODULE A; IMPORT ^; END A.", "MODULE A; IMPORT ^END A.", "MODULE A; IMPORT B ^C; END A.", "MODULE A; IMPORT B, ^; END A.",
		"MODULE A; IMPORT B, ^, C; END A.", "MODULE A; IMPORT B^. C; END A.", "MODULE A; IMPORT B; ^IMPORT C; END A.",
		"MODULE A; VAR x: INT; ^IMPORT C; END A.", "MODULE A; IMPORT ^VAR; END A.", "MODULE A; IMPORT B ^= C; END A.",
		"MODULE A; END^", "MODULE A; END ^.", "MODULE A; END ^;", "MODULE A; END ^END.", "MODULE A; END ^7.", "MODULE A; END A^",
		"MODULE A; END A ^;", "MODULE A; END A ^A.", "MODULE A; END A. ^.", "MODULE A; END A. ^MODULE", "MODULE A; END A. ^END A.",
		"MODULE A; END A ^, B.",
	} {
		wantCode(t, 20, text, shown(t))
	}
}

// strays are declarations in which a token can not stand.
var strays = []string{
	"CONST ^;", "CONST ^= 1;", "CONST ^7 = 1;", "CONST ^*k = 1;", "CONST k ^1;", "CONST k ^: 1;", "CONST k* ^* = 1;", "CONST k* ^- = 1;",
	"CONST k = ^;", "CONST k = 1 ^k = 2;", "CONST k = 1 ^2;", "CONST k = 1 ^END A.", "CONST k = 1; ^l = 2;",
	"CONST k = ^*;", "CONST k = ^+ 1;", "CONST k = - ^;", "CONST k = 1 + ^;", "CONST k = 1 + ^* 2;", "CONST k = (1 ^;",
	"CONST k = (^);", "CONST k = ((1) ^2);", "CONST k = 1 ^);", "CONST k = 1 ^. 2;", "CONST k = B. ^1;", "CONST k = B.k^.k;",
	"CONST k = B.^;", "CONST k = 1 DIV ^DIV 2;", "CONST k = 1 MOD ^ARRAY;", "CONST k = 1 ^, 2;", "CONST k = ^OF;",
	"CONST k = 1 ^OF;", "CONST k = ^ARRAY;", "CONST k = 1 - - ^;", "CONST k = 1 ^= 1;", "CONST k = 1 ^: 1;",
	"TYPE ^;", "TYPE ^= INT;", "TYPE T ^: INT;", "TYPE T ^INT;", "TYPE T = ^;", "TYPE T = ^7;", "TYPE T = ^(INT);", "TYPE T = ^-1;",
	"TYPE T = ^OF;", "TYPE T = ^END;", "TYPE T = ^VAR;", "TYPE T = ^PROC;", "TYPE T = INT ^INT;", "TYPE T = INT ^, CHAR;",
	"TYPE T = B.^;", "TYPE T = B.R^.R;", "TYPE T = B. ^7;", "TYPE T = INT ^END A.", "TYPE T* ^* = INT;",
	"TYPE T = ARRAY ^;", "TYPE T = ARRAY ^OF INT;", "TYPE T = ARRAY 2 ^;", "TYPE T = ARRAY 2 ^INT;", "TYPE T = ARRAY 2 OF ^;",
	"TYPE T = ARRAY 2 OF ^2;", "TYPE T = ARRAY 2 ^, 3 OF INT;", "TYPE T = ARRAY 2 + ^OF INT;", "TYPE T = ARRAY (2 ^OF INT;",
	"TYPE T = ARRAY 2 ^TO INT;", "TYPE T = POINTER ^;", "TYPE T = POINTER ^INT;", "TYPE T = POINTER ^OF INT;",
	"TYPE T = POINTER TO ^;", "TYPE T = POINTER TO ^7;", "TYPE T = POINTER TO ^END;", "TYPE T = POINTER TO X ^Y;",
	"TYPE T = POINTER TO X.^;", "TYPE T = POINTER TO B.^7;", "TYPE T = POINTER TO ^TO X;", "TYPE T = POINTER TO X ^(Y);",
	"TYPE T = RECORD ^;", "TYPE T = RECORD ^7 END;", "TYPE T = RECORD (^) END;", "TYPE T = RECORD (^7) END;",
	"TYPE T = RECORD (B.R ^END;", "TYPE T = RECORD (B.R ^, B.S) END;", "TYPE T = RECORD (B.^) END;", "TYPE T = RECORD (^RECORD END) END;",
	"TYPE T = RECORD (B.R) ^; END;", "TYPE T = RECORD a ^END;", "TYPE T = RECORD a: ^END;", "TYPE T = RECORD a: INT ^b: INT END;",
	"TYPE T = RECORD a: INT; ^END;", "TYPE T = RECORD a: INT; ^; b: INT END;", "TYPE T = RECORD a ^, b: INT END;",
	"TYPE T = RECORD a ^= INT END;", "TYPE T = RECORD a: INT ^, b: INT END;", "TYPE T = RECORD ^VAR a: INT END;",
	"TYPE T = RECORD a* ^*: INT END;", "TYPE T = RECORD ^*a: INT END;", "TYPE T = RECORD a: INT END ^END;",
	"TYPE T = RECORD END ^(B.R);", "TYPE T = RECORD (B.R) ^(B.R) END;", "TYPE T = RECORD a: INT ^) END;",
	"VAR ^;", "VAR ^: INT;", "VAR x ^INT;", "VAR x ^= INT;", "VAR x ^, y: INT;", "VAR x- ^-: INT;", "VAR x- ^*: INT;", "VAR x: ^;",
	"VAR x: INT; ^y: INT;", "VAR x: INT ^= 1;", "VAR ^VAR x: INT;", "VAR ^(x): INT;",
	"USE ^;", "USE ^7;", "USE B.^;", "USE B.k ^, B.h;", "USE B.k ^B.h;", "USE B.k^.k;", "USE B.k ^: INT;", "USE ^(B.k);",
	"USE ^VAR;", "USE B.k ^= 1;", "USE B.k ^* 2;",
	"PROC ^;", "PROC ^();", "PROC p ^;", "PROC p ^: INT;", "PROC p ^x: INT;", "PROC p* ^* ();", "PROC p (^;", "PROC p (^;);",
	"PROC p (^7);", "PROC p (x ^);", "PROC p (x: ^);", "PROC p (x: INT; ^);", "PROC p (x: INT ^y: INT);", "PROC p (x: INT ^, y: INT);",
	"PROC p (x ^, y: INT);", "PROC p (VAR ^);", "PROC p (VAR ^VAR x: INT);", "PROC p (VAR ^: INT);", "PROC p (x^*: INT);",
	"PROC p (x^-: INT);", "PROC p (^CONST x: INT);", "PROC p () ^INT;", "PROC p () ^= INT;", "PROC p (): ^;", "PROC p (): ^(INT);",
	"PROC p () ^();", "PROC p () ^END A.", "PROC p (x: INT) ^);", "PROC p (): INT ^: INT;", "PROC p (x: INT ^= 1);", "PROC p () ^*;",
}

func TestNoDeclarations(t *testing.T) {
	mods := shown(t)
	for _, decls := range strays {
		wantCode(t, 20, "MODULE A; IMPORT B; "+decls+" END A.", mods)
	}
	for _, decls := range []string{"VAR x: INT;", "CONST k = 1;", "TYPE T = RECORD END;", "PROC p ();", "USE B.k;"} {
		short := strings.TrimSuffix(decls, ";")
		wantCode(t, 20, "MODULE A; IMPORT B; "+short+" ^END A.", mods)
		wantCode(t, 20, "MODULE A; IMPORT B; "+decls+" ^; END A.", mods)
	}
}

// faults are modules that import B and C, each with a code, and where it is told.
var faults = []struct {
	code  int
	decls string
}{
	// A name that is declared.
	{31, "CONST ^INT = 1;"}, {31, "TYPE ^BOOL = INT;"}, {31, "VAR ^CHAR: INT;"}, {31, "PROC ^INT ();"},
	{31, "CONST ^B = 1;"}, {31, "TYPE ^C = INT;"}, {31, "VAR ^B: INT;"}, {31, "PROC ^C ();"},
	{31, "VAR x: INT; CONST ^x = 1;"}, {31, "CONST x = 1; TYPE ^x = INT;"}, {31, "TYPE x = INT; PROC ^x ();"}, {31, "PROC x (); VAR ^x: INT;"},
	{31, "VAR x: INT; VAR y: INT; VAR ^x: INT;"}, {31, "CONST ^INT 7"}, {31, "VAR x: INT; VAR ^x- y"},
	// A field or a param.
	{31, "VAR v: RECORD a: INT; ^a: CHAR END;"}, {31, "VAR v: RECORD a*: INT; b: INT; ^a- 7"}, {31, "PROC p (x: INT; VAR ^x: INT);"},
	{31, "PROC p (VAR x: INT; y: INT; ^x, 7"}, {31, "VAR v: RECORD a: RECORD a: INT; b: RECORD a: INT; ^a: INT END END END;"},
	// A mark.
	{32, "CONST k^- = 1;"}, {32, "TYPE T^- = INT;"}, {32, "PROC p^- ();"}, {32, "CONST k ^- x"}, {32, "TYPE k ^-; 7"}, {32, "PROC k ^-: INT 7"},
	// An expression is told of at its first token.
	{30, "CONST k = ^x;"}, {30, "CONST k = ^k;"}, {30, "CONST k = ^1 + x; CONST x = 1;"}, {30, "CONST k = ^(2 * (x))7"}, {30, "CONST k = ^- x END"},
	{30, "CONST k = ^INT;"}, {30, "CONST k = ^1 + CHAR;"}, {30, "CONST k = ^B;"}, {30, "CONST k = ^A;"}, {30, "CONST k = ^A.k;"}, {30, "CONST k = ^D.k;"},
	{30, "CONST k = ^B.x;"}, {30, "CONST k = ^B.h;"}, {30, "CONST k = ^B.a;"}, {30, "CONST k = ^INT.k;"}, {30, "CONST k = 1; CONST l = ^k.k;"}, {30, "VAR v: ARRAY ^x OF Y;"},
	{32, "VAR x: INT; CONST k = ^x;"}, {32, "TYPE x = INT; CONST k = ^1 - x 7"}, {32, "PROC x (); CONST k = ^x;"}, {32, "CONST k = ^B.R;"}, {32, "CONST k = ^0 + B.v;"}, {32, "CONST k = ^B.f;"},
	{32, "VAR v: INT; CONST k = ^v + x;"}, {30, "VAR v: INT; CONST k = ^x + v;"}, {32, "CONST k = ^1 DIV 0 + B.v;"}, {30, "CONST k = ^1 DIV 0 + x;"},
	{33, "CONST k = ^1 DIV 0;"}, {33, "CONST k = ^1 MOD (1 - 1);"}, {33, "CONST k = ^1000000 * 1001;"}, {33, "CONST k = ^- 999999999 - 2;"}, {33, "CONST k = ^999999999 + 2 7"},
	{33, "CONST z = 0; CONST k = ^B.k DIV z;"}, {33, "CONST k = ^(5 MOD (B.k - 2));"}, {33, "VAR x: ARRAY ^1 DIV 0 OF X;"},
	{33, "VAR v: ARRAY ^0 OF X;"}, {33, "VAR v: ARRAY ^1001 OF X;"}, {33, "VAR v: ARRAY ^0 - 1 OF X;"}, {33, "VAR v: ARRAY ^- 1000 7"}, {33, "VAR v: ARRAY ^B.k - 2 OF X;"}, {33, "VAR v: ARRAY ^999999999 7"},
	// A qual is told of at its first name.
	{30, "VAR v: ^X;"}, {30, "VAR v: ^X 7"}, {30, "VAR v: ^B;"}, {30, "TYPE T = ^T;"}, {30, "VAR v: ^X.R;"}, {30, "VAR v: ^A.R;"}, {30, "TYPE R = RECORD END; VAR v: ^A.R;"},
	{30, "VAR v: ^B.X;"}, {30, "VAR v: ^B.H;"}, {30, "VAR v: ^B.INT;"}, {30, "VAR v: ^INT.INT;"}, {30, "VAR v: RECORD a: ^X END;"}, {30, "PROC p (x: ^X);"}, {30, "PROC p (): ^X;"}, {30, "PROC p (): ^p;"},
	{30, "TYPE R = RECORD a: ^R END;"}, {30, "TYPE R = RECORD (^R) END;"}, {30, "TYPE T = ARRAY 2 OF ^T;"}, {30, "VAR v: RECORD a: INT; b: ^a END;"}, {30, "PROC p (a: INT; b: ^a);"},
	{32, "CONST k = 1; VAR v: ^k;"}, {32, "VAR x: INT; VAR v: ^x 7"}, {32, "PROC x (); VAR v: ^x;"}, {32, "VAR v: ^B.k;"}, {32, "VAR v: ^B.v;"}, {32, "PROC p (x: ^B.f);"}, {32, "VAR v: RECORD (^B.k) END;"},
	{32, "VAR v: RECORD (^B.L) END;"}, {32, "VAR v: RECORD (^C.T) 7"}, {32, "VAR v: RECORD (^INT) END;"}, {32, "VAR v: RECORD (^B.I) END;"}, {32, "TYPE P = POINTER TO RECORD END; VAR v: RECORD (^P) END;"},
	{32, "TYPE I = CHAR; VAR v: RECORD (^I END;"}, {32, "VAR v: POINTER TO ^B.I;"}, {32, "VAR v: POINTER TO ^C.T;"}, {32, "VAR v: POINTER TO ^B.v;"}, {30, "VAR v: POINTER TO ^B.x;"}, {30, "VAR v: POINTER TO ^X.x;"},
	// Behind USE INT is known no more than others are, and anything may be named.
	{30, "USE ^INT;"}, {30, "USE ^BOOL;"}, {30, "USE ^CHAR 7"}, {30, "USE ^x; VAR x: INT;"}, {30, "USE ^B;"}, {30, "USE ^A;"}, {30, "USE ^X.x;"}, {30, "USE ^B.h;"}, {30, "USE ^B.x 7"}, {30, "USE ^INT.x;"},
	{30, "VAR x: INT; USE x; USE B.v; USE B.f; USE B.k; CONST k = B.k; PROC p (); USE p; USE k; TYPE T = INT; USE T; USE ^y;"},
	// The first one that is met is told.
	{30, "VAR v: ^X; CONST INT = 1;"}, {31, "CONST ^INT = x;"}, {32, "CONST k^- = x;"}, {30, "CONST k = ^x;7"}, {20, "CONST k = x + ^;"}, {20, "VAR v: B.^;"}, {20, "USE x.^;"},
	{30, "VAR v: RECORD a: INT; b: ARRAY ^x OF INT; a: INT END;"}, {31, "VAR v: RECORD a: INT; ^a: ARRAY x OF INT END;"}, {30, "PROC p (a: ^X; a: INT);"},
}

func TestFaults(t *testing.T) {
	mods := shown(t)
	for _, w := range faults {
		wantCode(t, w.code, "MODULE A; IMPORT B, C; "+w.decls+" END A.", mods)
		// What is behind does not count.
		if ahead, rest, _ := strings.Cut(w.decls, "^"); strings.Contains(rest, ";") {
			rest = rest[:strings.Index(rest, ";")+1]
			wantCode(t, w.code, "MODULE A; IMPORT B, C; "+ahead+"^"+rest+" VAR A; INT = ", mods)
			wantCode(t, w.code, "MODULE A; IMPORT B, C; "+ahead+"^"+rest, mods)
		}
	}
}

func TestEnds(t *testing.T) {
	for _, text := range []string{
		"MODULE A; END ^B.", "MODULE A; END ^a.", "MODULE A; END ^A1.", "MODULE A1; END ^A.", "MODULE A; END ^B", "MODULE A; END ^B;", "MODULE A; END ^INT",
		"MODULE A; VAR x: INT; END ^x.", "MODULE A; VAR x: POINTER TO X; END ^x.", "MODULE A; END ^B. A.", "MODULE A; END ^B. END A.",
	} {
		wantCode(t, 21, text, nil)
	}
	wantCode(t, 30, "MODULE A; VAR v: ^X; END B.", nil)
	wantCode(t, 20, "MODULE A; VAR v: INT ^END B.", nil)
}

// numberedMods tell that many modules, D0, D1 and so on, each with constants k0, k1 and so on.
func numberedMods(many, consts int) []impl.Scope {
	var mods []impl.Scope
	for n := range many {
		s := impl.Scope{Name: "D" + strconv.Itoa(n), Types: impl.BaseTypes()}
		for k := range consts {
			s.Objects = append(s.Objects, constOf("k"+strconv.Itoa(k), impl.MkFull, k))
		}
		mods = append(mods, s)
	}
	return mods
}

func TestImports(t *testing.T) {
	mods := numberedMods(impl.MaxMods, 1)
	want := scopeOf(impl.BaseTypes())
	want.Imports = []string{"D7", "D0", "D3", "D1"}
	wantScope(t, "MODULE A; IMPORT D7, D0, D3, D1; END A.", mods, want)
	for _, w := range []struct {
		code int
		text string
	}{
		{34, "D0, D1, D2, D3, ^D4;"}, {34, "D0, D1, D2, D3, ^D4 7"}, {31, "D0, D1, D2, D3, ^D0;"}, {35, "D0, D1, D2, D3, ^D9;"}, {35, "D0, D1, D2, D3, ^A;"},
		{35, "^A;"}, {35, "^C;"}, {35, "^D8;"}, {35, "D0, ^d0;"}, {35, "^INT;"}, {35, "^A, A;"}, {35, "^C, ;"}, {35, "D1, ^A"},
		{31, "D0, ^D0;"}, {31, "D0, D1, ^D0 7"}, {31, "D0, ^D0, D9;"}, {20, "D0 ^D0;"}, {20, "D0, D1^.k0;"},
	} {
		wantCode(t, w.code, "MODULE A; IMPORT "+w.text+" VAR v: X; END B.", mods)
	}
	// The module itself may be one of the modules, and one of another name may be called as it was.
	wantCode(t, 35, "MODULE D0; IMPORT ^D0; END D0.", mods)
	want = impl.Scope{Name: "D0", Imports: []string{"D1"}, Types: impl.BaseTypes()}
	wantScope(t, "MODULE D0; IMPORT D1; END D0.", mods, want)
	wantCode(t, 30, "MODULE A; IMPORT D1; CONST k = ^D0.k0; END A.", mods)
	wantCode(t, 30, "MODULE A; CONST k = ^D0.k0; END A.", mods)
}

// TestModulesCalledINT: a name alone is that of the first three, with a second part it is the import's.
func TestModulesCalledINT(t *testing.T) {
	mods := modsOf(t, "MODULE INT; TYPE INT2* = RECORD END; TYPE T* = CHAR; CONST INT3* = 4; END INT.")
	want := scopeOf(tableOf(calledSo(recordOf(-1), "INT", "INT2"), arrayOf(4, 2)), varOf("a", 0, 0), varOf("b", 0, 3), varOf("c", 0, 4))
	want.Imports = []string{"INT"}
	want.Uses = []impl.Use{{Mod: "INT", Name: "INT2"}, {Mod: "INT", Name: "INT3"}, {Mod: "INT", Name: "T"}}
	wantScope(t, "MODULE A; IMPORT INT; VAR a: INT; VAR b: INT.INT2; VAR c: ARRAY INT.INT3 OF INT.T; END A.", mods, want)
	wantCode(t, 30, "MODULE A; IMPORT INT; USE ^INT; END A.", mods)
	wantCode(t, 32, "MODULE A; IMPORT INT; VAR p: POINTER TO ^INT; END A.", mods)
	wantCode(t, 31, "MODULE A; IMPORT INT; VAR ^INT: CHAR; END A.", mods)
}

func TestAsManyObjectsAsCanBe(t *testing.T) {
	var decls []string
	var objects []impl.Object
	for n := range impl.MaxObjects {
		name := "v" + strconv.Itoa(n)
		switch n % 4 {
		case 0:
			decls, objects = append(decls, "VAR "+name+": INT;"), append(objects, varOf(name, 0, 0))
		case 1:
			decls, objects = append(decls, "CONST "+name+"=1;"), append(objects, constOf(name, 0, 1))
		case 2:
			decls, objects = append(decls, "TYPE "+name+"=INT;"), append(objects, typeOf(name, 0, 0))
		default:
			decls, objects = append(decls, "PROC "+name+"();"), append(objects, procOf(name, 0, -1))
		}
	}
	full := strings.Join(decls, "")
	wantScope(t, inA(full), nil, scopeOf(impl.BaseTypes(), objects...))
	wantAccepted(t, inA(full+"USE v0;"), nil)
	for _, more := range []string{"VAR ^more: X;", "CONST ^more- = x;", "TYPE ^more = X;", "PROC ^more (x: X);", "VAR ^more 7"} {
		wantCode(t, 34, inA(full+more), nil)
		wantCode(t, 31, inA(full+strings.Replace(more, "more", "v9", 1)), nil)
		wantCode(t, 31, inA(full+strings.Replace(more, "more", "INT", 1)), nil)
	}
}

func TestAsManyFieldsAndParamsAsCanBe(t *testing.T) {
	six := "a: INT; b*: INT; c-: INT; d: INT; e: INT; f: INT"
	wantAccepted(t, inA("VAR v: RECORD "+six+" END;"), nil)
	wantCode(t, 34, inA("VAR v: RECORD "+six+"; ^g: X END;"), nil)
	wantCode(t, 34, inA("VAR v: RECORD "+six+"; ^g 7 END;"), nil)
	wantCode(t, 31, inA("VAR v: RECORD "+six+"; ^f: X END;"), nil)
	// Those of a Base, and those of a record within, are not the record's own.
	wantAccepted(t, inA("TYPE R = RECORD "+six+" END; VAR v: RECORD (R) "+six+" END; VAR w: RECORD a: RECORD "+six+" END; b: R; c: INT; d: INT; e: INT; f: RECORD "+six+" END END;"), nil)
	four := "a: INT; VAR b: INT; c: INT; d: INT"
	wantAccepted(t, inA("PROC p ("+four+"): INT; PROC q ("+four+");"), nil)
	wantCode(t, 34, inA("PROC p ("+four+"; ^e: X);"), nil)
	wantCode(t, 34, inA("PROC p ("+four+"; VAR ^e);"), nil)
	wantCode(t, 31, inA("PROC p ("+four+"; VAR ^d: X);"), nil)
}

func TestAsManyStepsAsCanBe(t *testing.T) {
	full := "1" + strings.Repeat("+1", 19)
	wantAccepted(t, inA("CONST k = -("+full+"); CONST l = "+full+";"), nil)
	wantCode(t, 34, inA("CONST k = ^- -("+full+");"), nil)
	wantCode(t, 34, inA("CONST k = ^1+"+full+"+x;"), nil)
	wantCode(t, 34, inA("VAR v: ARRAY ^0 * ("+full+"+1) OF X;"), nil)
	wantCode(t, 34, inA("CONST k = ^1 DIV 0+"+full+" 7"), nil)
	wantCode(t, 20, inA("CONST k = 1+"+full+"+^;"), nil)
}

func TestAsManyUsesAsCanBe(t *testing.T) {
	mods := numberedMods(4, impl.MaxObjects)
	for n := range mods {
		mods[n].Types = tableOf(calledSo(recordOf(-1), mods[n].Name, "R"))
		mods[n].Objects[15] = typeOf("R", 1, 3)
	}
	// Forty Uses: by expressions, by USE, and two by types.
	text := "MODULE A; IMPORT D0, D1, D2, D3; CONST k = D0.k0"
	uses := []impl.Use{{Mod: "D0", Name: "k0"}}
	for n := 1; n < 15; n++ {
		text += "+D0.k" + strconv.Itoa(n)
		uses = append(uses, impl.Use{Mod: "D0", Name: "k" + strconv.Itoa(n)})
	}
	text += ";"
	for n := range 23 {
		use := impl.Use{Mod: "D" + strconv.Itoa(1+n/15), Name: "k" + strconv.Itoa(n%15)}
		text += "USE " + use.Mod + "." + use.Name + ";"
		uses = append(uses, use)
	}
	text += "VAR v:D1.R;VAR w:D2.R;"
	uses = append(uses, impl.Use{Mod: "D1", Name: "R"}, impl.Use{Mod: "D2", Name: "R"})
	if len(uses) != mostUses {
		t.Fatal(len(uses))
	}
	if s := wantAccepted(t, text+"USE D0.k3;CONST l=D1.k2-D0.k4;VAR x:D1.R;END A.", mods); !slices.Equal(s.Uses, uses) {
		t.Errorf("Uses %v, want %v", s.Uses, uses)
	}
	for _, w := range []struct {
		code int
		more string
	}{
		{34, "USE ^D3.k0;"}, {34, "CONST l=^D3.k0;"}, {34, "CONST l=^D1.k2+D3.k0;"}, {34, "CONST l=^D3.k0+x;"}, {30, "CONST l=^x+D3.k0;"}, {32, "CONST l=^D3.R;"},
		{34, "VAR x:^D3.R;"}, {34, "VAR x:^D3.R 7"}, {34, "VAR x:RECORD(^D3.R)END;"}, {34, "VAR x:POINTER TO ^D3.R;"}, {34, "CONST l=^1 DIV 0+D3.k0;"}, {33, "CONST l=^1 DIV 0+D0.k0;"},
		{30, "USE ^D3.x;"}, {32, "VAR x:^D3.k0;"},
	} {
		wantCode(t, w.code, text+w.more+" END A.", mods)
	}
}

func TestAsManyTypesAsCanBe(t *testing.T) {
	mods := shown(t)
	arrays := func(many int) string { return strings.Repeat("ARRAY 1 OF ", many) }
	s := wantAccepted(t, inA("VAR v: "+arrays(impl.MaxTypes-3)+"INT;"), nil)
	if len(s.Types) != impl.MaxTypes {
		t.Error(len(s.Types))
	}
	for _, w := range []struct {
		code  int
		left  int
		decls string
	}{
		{34, 0, "^ARRAY X"}, {34, 0, "^RECORD 7"}, {34, 0, "^POINTER 7"}, {0, 0, "INT;"}, {34, 1, "ARRAY 1 OF ^RECORD END;"}, {34, 1, "RECORD a: ^ARRAY 0 OF INT END;"},
		{34, 2, "ARRAY 1 OF POINTER TO ^POINTER TO INT;"}, {0, 2, "POINTER TO RECORD END;"},
		// B.R takes two, B.S four, B.L five.
		{0, 2, "B.R;"}, {34, 1, "^B.R;"}, {34, 0, "^B.R;"}, {0, 4, "B.S;"}, {34, 3, "^B.S;"}, {34, 2, "RECORD (^B.R) 7"}, {0, 3, "RECORD (B.R) END;"},
		{34, 3, "RECORD (B.R) a: ^ARRAY 2 OF INT END;"}, {0, 4, "RECORD a: B.R; b: B.R; c: ARRAY 2 OF B.R END;"}, {34, 4, "RECORD a: B.R; b: B.R; c: ARRAY 2 OF ^B.S END;"},
		{0, 5, "B.L;"}, {0, 6, "RECORD a: B.R; b: B.L END;"}, {34, 5, "RECORD a: B.R; b: ^B.L END;"}, {0, 0, "B.I;"}, {0, 0, "INT; USE B.L;"},
	} {
		text := "MODULE A; IMPORT B; VAR u: " + arrays(impl.MaxTypes-3-w.left) + "INT; VAR v: " + w.decls + " END A."
		if w.code == 0 {
			wantAccepted(t, text, mods)
		} else {
			wantCode(t, w.code, text, mods)
		}
	}
	// What is there already takes no room; what can not be taken over is told at the type where it is.
	there := "MODULE A; IMPORT B; VAR r: B.R; VAR u: " + arrays(impl.MaxTypes-5) + "INT; VAR v: "
	wantAccepted(t, there+"B.R; END A.", mods)
	wantCode(t, 34, there+"^B.S; END A.", mods)
	mods = modsOf(t, "MODULE A; TYPE R* = RECORD END; TYPE S* = RECORD END; END A.", "MODULE B; IMPORT A; TYPE P* = POINTER TO A.R; TYPE Q* = ARRAY 2 OF P; END B.")
	there = "MODULE A; IMPORT B; VAR u: " + arrays(impl.MaxTypes-5) + "INT; VAR v: "
	wantCode(t, 36, there+"^B.P; END A.", mods)
	wantCode(t, 36, there+"^B.Q; END A.", mods)
	wantCode(t, 34, there+"ARRAY 1 OF ^B.Q; END A.", mods)
	wantCode(t, 36, there+"ARRAY 1 OF ^B.P; END A.", mods)
	wantCode(t, 34, there+"ARRAY 1 OF ARRAY 1 OF ^B.P; END A.", mods)
}

func TestArraysAreAsLongAsCanBe(t *testing.T) {
	mods := shown(t)
	for _, w := range []struct {
		long int
		expr string
	}{{1, "1"}, {1000, "1000"}, {1, "B.k - 1"}, {1000, "B.k * 500"}, {1000, "3E8H"}, {1, "- (1 - 2)"}, {999, "(999)"}} {
		s := wantAccepted(t, "MODULE A; IMPORT B; VAR v: ARRAY "+w.expr+" OF INT; END A.", mods)
		if len(s.Types) != 4 || s.Types[3].Long != w.long {
			t.Errorf("%s is taken as %v", w.expr, s.Types)
		}
	}
}

func wantMods(t *testing.T, mods []impl.Scope, good bool) {
	t.Helper()
	if impl.GoodMods(mods) != good {
		t.Errorf("GoodMods(%v) is not %v", mods, good)
	}
	if good {
		return
	}
	wantRefused(t, "MODULE X; END X.", mods, 0, 0)
	wantRefused(t, "?", mods, 0, 0)
	for _, m := range mods {
		wantModAt(t, mods, m.Name, 0, false)
	}
}

func wantModAt(t *testing.T, mods []impl.Scope, name string, n int, good bool) {
	t.Helper()
	if got, ok := impl.ModAt(mods, name); got != n || ok != good {
		t.Errorf("ModAt(%v, %q) = %d, %v, want %d, %v", mods, name, got, ok, n, good)
	}
}

func TestGoodMods(t *testing.T) {
	wantMods(t, nil, true)
	wantMods(t, []impl.Scope{}, true)
	wantMods(t, shown(t), true)
	wantMods(t, []impl.Scope{exportOfFull()}, true)
	wantMods(t, []impl.Scope{fullScope()}, false)
	most := numberedMods(impl.MaxMods, 1)
	wantMods(t, most, true)
	wantMods(t, numberedMods(impl.MaxMods+1, 1), false)
	wantMods(t, numberedMods(1000, 0), false)
	for n := range most {
		same := slices.Clone(most)
		same[n].Name = "D" + strconv.Itoa((n+1)%impl.MaxMods)
		wantMods(t, same, false)
		for i, bad := range badScopes() {
			if i%17 == n {
				wantMods(t, append(slices.Clone(most[:n]), bad), false)
			}
		}
		for _, change := range []func(s *impl.Scope){
			func(s *impl.Scope) { s.Imports = []string{"E"} },
			func(s *impl.Scope) { s.Objects[0].Mark = impl.MkNone },
			func(s *impl.Scope) { s.Types = append(s.Types, recordOf(-1)) },
			func(s *impl.Scope) { s.Name = "d 1" },
			func(s *impl.Scope) { s.Types = nil },
		} {
			mods := slices.Clone(most)
			mods[n] = changedScope(mods[n], change)
			wantMods(t, mods, false)
		}
	}
	hidden := impl.Scope{Name: "H", Types: tableOf(recordOf(-1, field("x", 0, 0))), Objects: []impl.Object{varOf("v", 2, 3)}}
	wantMods(t, []impl.Scope{hidden}, false)
	hidden.Types[3].Fields[0].Name = ""
	wantMods(t, []impl.Scope{hidden}, true)
	// One of the same Name is told twice though both are the same.
	wantMods(t, []impl.Scope{hidden, hidden}, false)
}

func TestModAt(t *testing.T) {
	mods := numberedMods(impl.MaxMods, 0)
	for n := range mods {
		wantModAt(t, mods, mods[n].Name, n, true)
		wantModAt(t, mods[:n], mods[n].Name, 0, false)
	}
	for _, name := range append([]string{"D", "d1", "D8", "D1 ", "D11"}, badNames...) {
		wantModAt(t, mods, name, 0, false)
		wantModAt(t, nil, name, 0, false)
	}
}

func TestConstsOf(t *testing.T) {
	want := func(s impl.Scope, good bool, known ...impl.Known) {
		t.Helper()
		if got, ok := impl.ConstsOf(s); !slices.Equal(got, known) || ok != good {
			t.Errorf("ConstsOf(%v) = %v, %v, want %v", s, got, ok, known)
		}
	}
	want(fullScope(), true, impl.Known{Name: "hidden", Value: -3}, impl.Known{Name: "least", Value: -impl.MaxWhole})
	want(exportOfFull(), true, impl.Known{Name: "least", Value: -impl.MaxWhole})
	want(scopeOf(impl.BaseTypes()), true)
	var all []impl.Known
	for n := range impl.MaxObjects {
		all = append(all, impl.Known{Name: "k" + strconv.Itoa(n), Value: n})
	}
	want(numberedMods(1, impl.MaxObjects)[0], true, all...)
	want(wantAccepted(t, inA("VAR z: INT; CONST z1 = 3; TYPE a = INT; CONST a0* = z1 * z1; PROC p ();"), nil), true, impl.Known{Name: "z1", Value: 3}, impl.Known{Name: "a0", Value: 9})
	for _, s := range badScopes() {
		want(s, false)
	}
}

func wantImports(t *testing.T, s string, good bool, names ...string) {
	t.Helper()
	if got, ok := impl.ImportsIn(s); !slices.Equal(got, names) || ok != good {
		t.Errorf("ImportsIn(%q) = %v, %v, want %v, %v", s, got, ok, names, good)
	}
}

func TestImportsIn(t *testing.T) {
	for _, behind := range []string{"", " ", "END A.", "rest", "IMPORT D;", "VAR x: X; END B.", "; ; 7 ) MODULE", ". .", "(* B *)", "= IMPORT"} {
		wantImports(t, "MODULE A; IMPORT B; "+behind, true, "B")
		wantImports(t, "MODULE A; IMPORT B, C,Dd ; "+behind, true, "B", "C", "Dd")
		if !strings.HasPrefix(behind, "IMPORT") {
			wantImports(t, "MODULE A; "+behind, true)
		}
	}
	// No more is asked than the grammar.
	wantImports(t, "MODULE A; IMPORT A, INT, B, B, C, D, E, F, G, H, B;", true, "A", "INT", "B", "B", "C", "D", "E", "F", "G", "H", "B")
	wantImports(t, "MODULE A; IMPORT B"+strings.Repeat(",B", 147)+";", true, slices.Repeat([]string{"B"}, 148)...)
	for _, between := range betweens {
		text, _ := withBetween("MODULE A; IMPORT B, C; x", 0, between)
		wantImports(t, text, true, "B", "C")
	}
	for _, text := range []string{
		"", "MODULE", "MODULE A", "MODULE ;", "MODULE A, ;", "MODULE A.", "A; IMPORT B;", "; MODULE A; IMPORT B;", "IMPORT B;", "module A;", "MODULE A IMPORT B;", "MODULE MODULE; IMPORT B;", "MODULE 7;", "MODULE A; IMPORT",
		"MODULE A; IMPORT ;", "MODULE A; IMPORT B", "MODULE A; IMPORT B,", "MODULE A; IMPORT B,;", "MODULE A; IMPORT B C;", "MODULE A; IMPORT ,B;", "MODULE A; IMPORT B.C;", "MODULE A; IMPORT B: C;", "MODULE A; IMPORT VAR;", "MODULE A; IMPORT B, END;", "MODULE A; IMPORT 7;", "MODULE A; IMPORT IMPORT B;", "MODULE A; IMPORT B END A.", "MODULE A; IMPORT B, 7;",
		// Its tokens are read up to the end.
		"MODULE A; IMPORT B; ?", "MODULE A; IMPORT B; 12X", "MODULE A; IMPORT B; (*", "MODULE A; IMPORT B; abcdefghijk", "MODULE A; IMPORT B;" + strings.Repeat(";", 295), "MODULE A; IMPORT B;" + strings.Repeat(" ", 1182), "MODULE A; ?",
	} {
		wantImports(t, text, false)
	}
	wantImports(t, "MODULE A; IMPORT B;"+strings.Repeat(";", 294), true, "B")
	wantImports(t, "MODULE A; IMPORT B;"+strings.Repeat(" ", 1181), true, "B")
}

func wantTaken(t *testing.T, s, m impl.Scope, n int, want impl.Scope, number int) {
	t.Helper()
	got, at, ok := impl.TakeType(s, m, n)
	if !ok || at != number || !sameByHand(got, want) {
		t.Errorf("TakeType(%v, %v, %d) = %v, %d, %v, want %v, %d", s, m, n, got, at, ok, want, number)
		return
	}
	if !impl.GoodScope(got) {
		t.Errorf("%v is not good", got)
	}
	if is, ok := impl.SameTypes(got.Types, at, m.Types, n); !is || !ok {
		t.Errorf("type %d of %v is not like %d of %v", at, got, n, m)
	}
}

func wantNotTaken(t *testing.T, s, m impl.Scope, n int) {
	t.Helper()
	if got, at, ok := impl.TakeType(s, m, n); ok || at != 0 || !sameByHand(got, impl.Scope{}) {
		t.Errorf("TakeType(%v, %v, %d) = %v, %d, %v", s, m, n, got, at, ok)
	}
}

// withTypes tells a scope with more types.
func withTypes(s impl.Scope, types ...impl.Type) impl.Scope {
	return changedScope(s, func(s *impl.Scope) { s.Types = append(s.Types, types...) })
}

func TestTakeType(t *testing.T) {
	// Types 3 to 8 of exportOfFull are those of a module A.
	m := exportOfFull()
	s := impl.Scope{Name: "Z", Imports: []string{"A", "Y"}, Types: tableOf(arrayOf(9, 2), calledSo(pointerTo(3), "Z", "P")),
		Objects: []impl.Object{varOf("x", 1, 4), procOf("q", 0, 3, param("a", true, 4))}, Uses: []impl.Use{{Mod: "Y", Name: "u"}}}
	for n := range 3 {
		wantTaken(t, s, m, n, s, n)
	}
	ofB := calledSo(arrayOf(1000, 2), "B", "R")
	wantTaken(t, s, m, 5, withTypes(s, ofB), 5)
	wantTaken(t, s, m, 4, withTypes(s, arrayOf(10, 6), ofB), 5)
	wantTaken(t, s, m, 3, withTypes(s, pointerTo(6), arrayOf(10, 7), ofB), 5)
	r := func(next int) impl.Type {
		return calledSo(recordOf(-1, field("x", 1, 0), field("", 0, next), field("", 0, 2)), "A", "R")
	}
	p := func(base int) impl.Type { return calledSo(pointerTo(base), "A", "P") }
	last := func(base, y int) impl.Type { return recordOf(base, field("y", 2, y), field("x", 1, 1)) }
	wantTaken(t, s, m, 6, withTypes(s, r(6), p(7), last(5, 8), arrayOf(10, 9), ofB), 5)
	wantTaken(t, s, m, 7, withTypes(s, p(6), last(7, 8), r(5), arrayOf(10, 9), ofB), 5)
	wantTaken(t, s, m, 8, withTypes(s, last(6, 8), r(7), p(5), arrayOf(10, 9), ofB), 5)
	// What is there with its name is taken, and what comes behind hangs on that.
	there := withTypes(s, ofB)
	wantTaken(t, there, m, 5, there, 5)
	wantTaken(t, there, m, 4, withTypes(there, arrayOf(10, 5)), 6)
	there = withTypes(s, r(6), p(7), last(5, 8), arrayOf(10, 9), ofB)
	wantTaken(t, there, m, 6, there, 5)
	wantTaken(t, there, m, 7, there, 6)
	wantTaken(t, there, m, 5, there, 9)
	// Without a name it is taken anew.
	wantTaken(t, there, m, 8, withTypes(there, last(5, 11), arrayOf(10, 9)), 10)
	wantTaken(t, there, m, 4, withTypes(there, arrayOf(10, 9)), 10)
	wantTaken(t, there, m, 3, withTypes(there, pointerTo(11), arrayOf(10, 9)), 10)
	// Each once, also where two ways lead to it.
	two := impl.Scope{Name: "T", Types: tableOf(recordOf(-1, field("a", 1, 4), field("b", 1, 4)), arrayOf(3, 0)), Objects: []impl.Object{varOf("v", 1, 3)}}
	wantTaken(t, s, two, 3, withTypes(s, recordOf(-1, field("a", 1, 6), field("b", 1, 6)), arrayOf(3, 0)), 5)
}

func TestTypesThatCanNotBeTaken(t *testing.T) {
	m := exportOfFull()
	s := impl.Scope{Name: "Z", Types: impl.BaseTypes()}
	for _, other := range []impl.Type{
		calledSo(arrayOf(999, 2), "B", "R"), calledSo(arrayOf(1000, 1), "B", "R"), calledSo(recordOf(-1), "B", "R"),
	} {
		there := withTypes(s, other)
		for n := 3; n < len(m.Types); n++ {
			wantNotTaken(t, there, m, n)
		}
		wantTaken(t, there, m, 2, there, 2)
	}
	// Another type of that name is taken as such where it is not reached.
	there := withTypes(s, calledSo(pointerTo(4), "A", "P"), recordOf(-1))
	wantNotTaken(t, there, m, 7)
	wantNotTaken(t, there, m, 6)
	wantNotTaken(t, there, m, 8)
	wantTaken(t, there, m, 5, withTypes(there, calledSo(arrayOf(1000, 2), "B", "R")), 5)
	wantTaken(t, there, m, 3, withTypes(there, pointerTo(6), arrayOf(10, 7), calledSo(arrayOf(1000, 2), "B", "R")), 5)
	// Of its own types none comes behind.
	for _, name := range []string{"A", "B"} {
		own := impl.Scope{Name: name, Types: impl.BaseTypes()}
		for n := 3; n < len(m.Types); n++ {
			if name == "A" && n < 6 {
				continue
			}
			wantNotTaken(t, own, m, n)
		}
	}
	ofB := calledSo(arrayOf(1000, 2), "B", "R")
	own := impl.Scope{Name: "A", Types: impl.BaseTypes()}
	wantTaken(t, own, m, 5, withTypes(own, ofB), 3)
	own = impl.Scope{Name: "B", Types: tableOf(ofB)}
	wantTaken(t, own, m, 5, own, 3)
	wantTaken(t, own, m, 4, withTypes(own, arrayOf(10, 3)), 4)
	own.Types[3].Long = 1
	wantNotTaken(t, own, m, 5)
	// A module may take from what it told itself ahead, where all of that is there.
	own = impl.Scope{Name: "A", Types: m.Types}
	wantTaken(t, own, m, 6, own, 6)
	wantTaken(t, own, m, 8, withTypes(own, recordOf(6, field("y", 2, 10), field("x", 1, 1)), arrayOf(10, 5)), 9)
	// As many as can be.
	for many := 0; many <= impl.MaxTypes-3; many++ {
		full := withTypes(s, slices.Repeat([]impl.Type{recordOf(-1)}, many)...)
		if many+5 <= impl.MaxTypes-3 {
			if got, n, ok := impl.TakeType(full, m, 6); n != 3+many || !ok || len(got.Types) != 8+many {
				t.Errorf("with %d types TakeType tells %v, %d, %v", many, got, n, ok)
			}
		} else {
			wantNotTaken(t, full, m, 6)
		}
		wantTaken(t, full, m, 1, full, 1)
	}
}

func TestTakeTypeOfWhatIsNotAsSaid(t *testing.T) {
	m := exportOfFull()
	s := impl.Scope{Name: "Z", Types: impl.BaseTypes()}
	for _, n := range []int{-1, -2, len(m.Types), 24, 1000, 1 << 32, math.MaxInt, math.MinInt} {
		wantNotTaken(t, s, m, n)
		wantNotTaken(t, s, impl.Scope{Name: "E", Types: impl.BaseTypes()}, n)
	}
	wantNotTaken(t, s, impl.Scope{Name: "E", Types: impl.BaseTypes()}, 3)
	for n := range 4 {
		wantNotTaken(t, s, fullScope(), n)
		for _, bad := range badScopes() {
			wantNotTaken(t, bad, m, n)
			wantNotTaken(t, s, bad, n)
		}
	}
	wantTaken(t, fullScope(), m, 0, fullScope(), 0)
}

// callFront calls each function of the chapter.
func callFront(text string, s impl.Scope, mods []impl.Scope) {
	impl.Compile(text, mods)
	impl.ImportsIn(text)
	impl.GoodMods(mods)
	impl.ConstsOf(s)
	for _, name := range []string{"A", "B", "C", "none", ""} {
		impl.ModAt(mods, name)
	}
	for _, m := range mods {
		for n := -1; n <= min(len(m.Types), 30); n++ {
			impl.TakeType(s, m, n)
			impl.TakeType(m, s, n)
		}
	}
}

// takingTexts are modules that take something of what shown tells, some with a fault behind that.
var takingTexts = []string{
	"MODULE A; IMPORT C, B; VAR x: RECORD (B.S) c*: B.I END; VAR y: C.T; TYPE R = RECORD END; VAR z: B.L; TYPE Q = C.A; CONST k* = B.k + C.k; USE B.f; END A.",
	"MODULE Other; IMPORT B; PROC p* (VAR a: B.R; long: ARRAY B.k OF B.S): POINTER TO B.L; VAR v: POINTER TO T; TYPE T* = B.R; VAR w: T; END Other.",
	"MODULE A; IMPORT B, C; VAR x: B.S; VAR y: C.T; VAR z: POINTER TO ARRAY 0 OF B.R; END A.",
	"MODULE A; IMPORT B, C; VAR x: B.S; VAR y: C.T; VAR z: POINTER TO Q; END A.",
	"MODULE A; IMPORT B, C; VAR x: B.S; VAR y: C.T; VAR z: RECORD a: B.L; b: C.T; ?",
	"MODULE A; IMPORT B, C; VAR x: B.S; VAR y: C.T; USE B.x; END A.",
	"MODULE B; IMPORT C; VAR x: C.T; END B.",
}

func copyOfMods(mods []impl.Scope) []impl.Scope {
	var l []impl.Scope
	for _, m := range mods {
		l = append(l, copyOfScope(m))
	}
	return l
}

func TestFrontWritesIntoNothing(t *testing.T) {
	scopes := append(badScopes(), fullScope(), exportOfFull(), scopeOf(tableOf(calledSo(arrayOf(1000, 2), "B", "R"))))
	for i, s := range scopes {
		for k, text := range takingTexts {
			mods := append(shown(t), exportOfFull())
			mods[2].Name = "Dd"
			if k%2 == 0 {
				mods = append(mods, s)
			}
			before, kept := copyOfScope(s), copyOfMods(mods)
			callFront(text, s, mods)
			if !reflect.DeepEqual(s, before) || !reflect.DeepEqual(mods, kept) {
				t.Fatalf("scope %d or its modules are written into", i)
			}
		}
	}
}

func TestWhatLiesBehindModules(t *testing.T) {
	plain := shown(t)
	var mods []impl.Scope
	var same []func() bool
	for _, m := range plain {
		apart, is := laidApart(m)
		mods, same = append(mods, apart), append(same, is)
	}
	mods, room := behind(mods, exportOfFull(), impl.Scope{})
	kept := copyOfMods(room)
	for _, text := range takingTexts {
		s, code, at, ok := impl.Compile(text, mods)
		want, why, place, good := impl.Compile(text, plain)
		if !sameByHand(s, want) || code != why || at != place || ok != good {
			t.Errorf("what lies behind is read by Compile(%q)", text)
		}
		callFront(text, mods[0], mods)
	}
	wantRefused(t, "MODULE Z; IMPORT A; END Z.", mods, 35, 17)
	wantModAt(t, mods, "A", 0, false)
	s, is := laidApart(fullScope())
	same = append(same, is)
	for n := range mods[0].Types {
		got, at, ok := impl.TakeType(s, mods[0], n)
		want, number, good := impl.TakeType(fullScope(), plain[0], n)
		if !sameByHand(got, want) || at != number || ok != good {
			t.Errorf("what lies behind is read by TakeType of %d", n)
		}
	}
	if known, ok := impl.ConstsOf(s); len(known) != 2 || !ok {
		t.Error("constants", known)
	}
	for i, is := range same {
		if !is() {
			t.Errorf("what lies behind the lists of scope %d is written into", i)
		}
	}
	if !reflect.DeepEqual(room, kept) {
		t.Error("what lies behind the modules is written into")
	}
}

// wantNewMemory asks that the lists of an answer lie apart from each other and from those given, and
// that none of its texts is a part of one given.
func wantNewMemory(t *testing.T, got impl.Scope, spans []span, given []string) {
	t.Helper()
	own := spansOf(got)
	for i, one := range own {
		for _, other := range slices.Concat(own[:i], spans) {
			if one.from < other.to && other.from < one.to {
				t.Fatalf("a list of %v shares memory", got)
			}
		}
	}
	told := textsOf(got)
	for _, use := range got.Uses {
		told = append(told, use.Mod, use.Name)
	}
	apartTexts(t, given, told...)
}

func TestFrontAnswersAreNewMemory(t *testing.T) {
	var mods []impl.Scope
	var spans []span
	var given []string
	for _, m := range shown(t) {
		m = withOwnTexts(m)
		mods = append(mods, m)
		spans = append(spans, spansOf(m)...)
		given = append(given, textsOf(m)...)
	}
	for _, text := range takingTexts[:2] {
		text = strings.Clone(text)
		first, _, _, ok := impl.Compile(text, mods)
		second, _, _, _ := impl.Compile(text, mods)
		if !ok {
			t.Fatal(text)
		}
		wantNewMemory(t, first, slices.Concat(spans, spansOf(second)), append(given, text))
		kept := copyOfScope(second)
		clear(first.Types[:cap(first.Types)])
		clear(first.Objects[:cap(first.Objects)])
		clear(first.Uses[:cap(first.Uses)])
		if third, _, _, _ := impl.Compile(text, mods); !sameByHand(second, kept) || !sameByHand(third, kept) {
			t.Error("an answer is kept")
		}
		names, _ := impl.ImportsIn(text)
		again, _ := impl.ImportsIn(text)
		apart(t, names, again)
		apartTexts(t, []string{text}, names...)
		known, _ := impl.ConstsOf(second)
		knownAgain, _ := impl.ConstsOf(second)
		apart(t, known, knownAgain)
		for _, one := range known {
			apartTexts(t, textsOf(second), one.Name)
		}
	}
	s := withOwnTexts(fullScope())
	s.Imports[0], s.Imports[1] = strings.Clone(s.Imports[0]), strings.Clone(s.Imports[1])
	for i, use := range s.Uses {
		s.Uses[i] = impl.Use{Mod: strings.Clone(use.Mod), Name: strings.Clone(use.Name)}
		given = append(given, s.Uses[i].Mod, s.Uses[i].Name)
	}
	spans, given = append(spans, spansOf(s)...), append(given, textsOf(s)...)
	for n := range mods[1].Types {
		first, _, ok := impl.TakeType(s, mods[1], n)
		second, _, _ := impl.TakeType(s, mods[1], n)
		if !ok {
			// B.R is otherwise there.
			continue
		}
		wantNewMemory(t, first, slices.Concat(spans, spansOf(second)), given)
	}
	s.Types[7].Name = "Other"
	for n := range mods[1].Types {
		first, _, ok := impl.TakeType(s, mods[1], n)
		if !ok {
			t.Fatal(n)
		}
		wantNewMemory(t, first, append(spans, spansOf(s)...), append(given, s.Types[7].Name))
	}
}

// TestFrontAnswersAnything: a panic fails.
func TestFrontAnswersAnything(t *testing.T) {
	r := &row{seed: 77}
	texts := append([]string{"", "\x00", "\xff\xfe", "(*", strings.Repeat("(", 300), strings.Repeat("MODULE A; ", 60), strings.Repeat("x", 5000), inA("CONST k = " + strings.Repeat("-", 280) + "1;")}, takingTexts...)
	for range 300 {
		var mods []impl.Scope
		for range r.below(10) {
			m := r.someScope()
			if r.below(2) == 0 {
				m = exportByStack(m)
			}
			if r.below(4) == 0 {
				m = r.changedObject(r.changed(m))
			}
			mods = append(mods, m)
		}
		text := texts[r.below(len(texts))]
		if r.below(2) == 0 && text != "" {
			n := r.below(len(text))
			text = text[:n] + string(rune(r.below(300))) + text[n:]
		}
		callFront(text, r.changed(r.someScope()), mods)
	}
	for _, text := range takingTexts {
		for n := range text {
			callFront(text[:n], fullScope(), nil)
			if s, code, at, ok := impl.Compile(text[:n], shown(t)); ok || code == 0 || at < 0 || at > n || !sameByHand(s, impl.Scope{}) {
				t.Fatalf("Compile(%q) = %v, %d, %d, %v", text[:n], s, code, at, ok)
			}
		}
	}
}
