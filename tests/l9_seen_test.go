package tests

import (
	"encoding/binary"
	"math"
	"reflect"
	"slices"
	"strconv"
	"strings"
	"testing"

	"loop.example/g00837/impl"
)

// The modules of most tests: C tells of itself alone, B takes from C, and A from both.
const (
	textOfC = "MODULE C; CONST n* = 3; CONST h = 9; TYPE S* = RECORD a*: INT; b-: CHAR; c: BOOL END; TYPE U* = ARRAY n OF BOOL; VAR v*: S; END C."
	textOfB = "MODULE B; IMPORT C; CONST k* = 4; TYPE R* = RECORD (C.S) d*: C.U END; TYPE Q* = RECORD x*: INT; p*: POINTER TO Q END; VAR w*: R; VAR n*: INT; PROC f* (VAR a: Q): INT; END B."
	textOfA = "MODULE A; IMPORT B, C; CONST m* = B.k + C.n; TYPE T* = RECORD (B.R) q*: B.Q END; USE B.w; VAR x: ARRAY B.k OF POINTER TO C.U; USE B.f; USE C.v; USE B.n; USE B.R; END A."
)

// usedByA is what A uses, in order.
const usedByA = "B.k C.n B.R B.Q B.w C.U B.f C.v B.n"

func usesOf(words string) []impl.Use {
	var l []impl.Use
	for _, word := range strings.Fields(words) {
		mod, name, _ := strings.Cut(word, ".")
		l = append(l, impl.Use{Mod: mod, Name: name})
	}
	return l
}

func seenOf(words string, sums ...int) []impl.Seen {
	var l []impl.Seen
	for i, use := range usesOf(words) {
		l = append(l, impl.Seen{Mod: use.Mod, Name: use.Name, Sum: sums[i%len(sums)]})
	}
	return l
}

// scopeIn tells the scope of a text that must be taken.
func scopeIn(t *testing.T, text string, mods []impl.Scope) impl.Scope {
	t.Helper()
	s, code, at, ok := impl.Compile(text, mods)
	if !ok {
		t.Fatalf("Compile(%q) tells %d at %d", text, code, at)
	}
	return s
}

func seenIn(t *testing.T, client impl.Scope, mods []impl.Scope) []impl.Seen {
	t.Helper()
	l, ok := checkSeen(t, client, modsModelOf(mods))
	if !ok {
		t.Fatalf("SeenIn(%v, %v) tells nothing", client, mods)
	}
	return l
}

// clientOf tells a scope that uses what is said, without types and objects of its own.
func clientOf(imports, uses string) impl.Scope {
	return impl.Scope{Name: "Client", Imports: strings.Fields(imports), Types: impl.BaseTypes(), Uses: usesOf(uses)}
}

// wantNothingSeen asks for the zero answers of SeenIn.
func wantNothingSeen(t *testing.T, client impl.Scope, mods []impl.Scope) {
	t.Helper()
	if l, ok := impl.SeenIn(client, mods); len(l) != 0 || ok {
		t.Errorf("SeenIn(%v, %v) = %v, %v", client, mods, l, ok)
	}
}

// wantOthers asks for what is no more as it was seen.
func wantOthers(t *testing.T, l []impl.Seen, mods []impl.Scope, words string) {
	t.Helper()
	if got := checkCheck(t, l, modsModelOf(mods)); !slices.Equal(got, usesOf(words)) {
		t.Errorf("CheckSeen(%v) tells %v, want %s", l, got, words)
	}
}

// wantNotChecked asks for the zero answers of CheckSeen and MustCompile.
func wantNotChecked(t *testing.T, l []impl.Seen, mods []impl.Scope) {
	t.Helper()
	if got, ok := impl.CheckSeen(l, mods); len(got) != 0 || ok {
		t.Errorf("CheckSeen(%v, %v) = %v, %v", l, mods, got, ok)
	}
	if must, ok := impl.MustCompile(l, mods); must || ok {
		t.Errorf("MustCompile(%v, %v) = %v, %v", l, mods, must, ok)
	}
}

func wantGoodSeen(t *testing.T, l []impl.Seen, good bool) {
	t.Helper()
	if checkSeenList(t, l) != good {
		t.Errorf("GoodSeen(%v) is not %v", l, good)
	}
	if !good {
		wantNotChecked(t, l, nil)
		wantNotChecked(t, l, shown(t))
	}
}

func wantSeenRead(t *testing.T, b string, want []impl.Seen, good bool) {
	t.Helper()
	if got, ok := impl.ReadSeen(b); !slices.Equal(got, want) || ok != good {
		t.Errorf("ReadSeen(%q) = %v, %v, want %v, %v", b, got, ok, want, good)
	}
	if checkSeenRead(t, b) != good {
		t.Errorf("the model tells of %q that it is not %v", b, good)
	}
}

func wantUses(t *testing.T, s impl.Scope, mod string, good bool, want ...string) {
	t.Helper()
	if got, ok := impl.UsesOf(s, mod); !slices.Equal(got, want) || ok != good {
		t.Errorf("UsesOf(%v, %q) = %v, %v, want %v, %v", s, mod, got, ok, want, good)
	}
}

func TestSeenConstantIsAsTold(t *testing.T) {
	if impl.MaxSeen != 40 {
		t.Error(impl.MaxSeen)
	}
}

// TestSeenByHand has numbers that were worked out without the program.
func TestSeenByHand(t *testing.T) {
	mods := modsOf(t, "MODULE B; CONST k* = 2 * 2; TYPE R* = RECORD a*: INT; p: POINTER TO R END; VAR v*: R; VAR w: INT; END B.")
	client := scopeIn(t, "MODULE A; IMPORT B; VAR x: ARRAY B.k OF B.R; USE B.v; END A.", mods)
	want := []impl.Seen{{Mod: "B", Name: "k", Sum: 979582043678755023}, {Mod: "B", Name: "R", Sum: 439785478226998361}, {Mod: "B", Name: "v", Sum: 1639917179897020894}}
	if got := seenIn(t, client, mods); !slices.Equal(got, want) {
		t.Errorf("SeenIn tells %v, want %v", got, want)
	}
	bytes := "\x06\x01B\x01k\x0d\x98\x2c\xad\xbd\xd2\xc8\xcf\x01B\x01R\x06\x1a\x6e\x8f\xf7\x18\x74\x59\x01B\x01v\x16\xc2\x27\xfc\x88\xd2\x81\xde"
	if b, ok := impl.SeenBytes(want); b != bytes || !ok {
		t.Errorf("SeenBytes tells %q, %v", b, ok)
	}
	wantSeenRead(t, bytes, want, true)
	wantOthers(t, want, mods, "")
	mods[0].Objects[0].Value = 5
	wantOthers(t, want, mods, "B.k")
	want[0].Sum = 989975923433315431
	wantOthers(t, want, mods, "")
	want[2].Sum++
	wantOthers(t, want, mods, "B.v")
}

func TestWhatAClientSaw(t *testing.T) {
	mods := modsOf(t, textOfC, textOfB)
	client := scopeIn(t, textOfA, mods)
	l := seenIn(t, client, mods)
	if len(l) != len(usesOf(usedByA)) {
		t.Fatalf("%v is not of %s", l, usedByA)
	}
	for i, use := range usesOf(usedByA) {
		n, _ := impl.ModAt(mods, use.Mod)
		sum, ok := impl.FingerAt(mods[n], use.Name)
		if l[i] != (impl.Seen{Mod: use.Mod, Name: use.Name, Sum: sum}) || !ok {
			t.Errorf("seen %d is %v, want %v and %d", i, l[i], use, sum)
		}
	}
	wantUses(t, client, "B", true, "k", "R", "Q", "w", "f", "n")
	wantUses(t, client, "C", true, "n", "U", "v")
	// The order of the modules is not asked, nor are modules of which nothing is used.
	turned := []impl.Scope{mods[1], exportOfFull(), mods[0], {Name: "C0", Types: impl.BaseTypes()}}
	if got := seenIn(t, client, turned); !slices.Equal(got, l) {
		t.Errorf("in another order %v is seen, not %v", got, l)
	}
	wantOthers(t, l, turned, "")
	wantToldTheSame(t, textOfA, client, l, modsModelOf(turned))
}

// versions are changes to C and to B, each of one text into another one; whether B is compiled anew by C;
// what is otherwise for A then, and whether A is taken by the new modules.
var versions = []struct {
	c, b   [2]string
	oldB   bool
	others string
	taken  bool
}{
	{others: "", taken: true},
	// What is not shown, how a value comes about, and the order in which things are told.
	{c: [2]string{"CONST h = 9; ", ""}, others: "", taken: true},
	{c: [2]string{"h = 9", "h = 10; VAR g: POINTER TO S"}, others: "", taken: true},
	{c: [2]string{"n* = 3", "n* = 7 DIV 2"}, others: "", taken: true},
	{c: [2]string{"c: BOOL", "other: BOOL"}, others: "", taken: true},
	{c: [2]string{"TYPE S*", "TYPE W* = INT; VAR y-: W; TYPE S*"}, others: "", taken: true},
	{c: [2]string{"TYPE S* = RECORD a*: INT; b-: CHAR; c: BOOL END; TYPE U* = ARRAY n OF BOOL;", "TYPE U* = ARRAY n OF BOOL; TYPE S* = RECORD a*: INT; b-: CHAR; c: BOOL END;"}, others: "", taken: true},
	{b: [2]string{"CONST k* = 4; TYPE R*", "USE C.v; TYPE N = RECORD END; CONST k* = C.n + 1; TYPE R*"}, others: "", taken: true},
	{b: [2]string{"VAR w*: R; VAR n*: INT;", "VAR n*: INT; PROC g (x: Q); VAR w*: R;"}, others: "", taken: true},
	{b: [2]string{"IMPORT C; CONST k* = 4; TYPE R* = RECORD (C.S) d*: C.U END; TYPE Q* = RECORD x*: INT; p*: POINTER TO Q END;", "IMPORT C; TYPE Q* = RECORD x*: INT; p*: POINTER TO Q END; TYPE R* = RECORD (C.S) d*: C.U END; CONST k* = 4;"}, others: "", taken: true},
	// A constant, and what a type is by it; by a type that is taken over, and by one that is not.
	{b: [2]string{"k* = 4", "k* = 5"}, others: "B.k", taken: true},
	{b: [2]string{"k* = 4", "k* = -4"}, others: "B.k"},
	{c: [2]string{"n* = 3", "n* = 4"}, others: "C.n B.R B.w C.U", taken: true},
	{c: [2]string{"n* = 3", "n* = 4"}, oldB: true, others: "C.n C.U"},
	{c: [2]string{"n* = 3", "n* = 4"}, b: [2]string{"d*: C.U", "d*: ARRAY 3 OF BOOL"}, others: "C.n B.R B.w C.U", taken: true},
	{c: [2]string{"n* = 3", "n* = 4"}, b: [2]string{"d*: C.U", "d: C.U"}, others: "C.n B.R B.w C.U", taken: true},
	{c: [2]string{"ARRAY n OF BOOL", "ARRAY 3 OF BOOL"}, others: "", taken: true},
	// What a type of another module that is taken over reaches: A names C.S nowhere.
	{c: [2]string{"a*: INT", "a*: CHAR"}, others: "B.R B.w C.v", taken: true},
	{c: [2]string{"a*: INT", "a*: CHAR"}, oldB: true, others: "C.v", taken: true},
	{c: [2]string{"a*: INT", "a-: INT"}, others: "B.R B.w C.v", taken: true},
	{c: [2]string{"a*: INT", "z*: INT"}, others: "B.R B.w C.v", taken: true},
	{c: [2]string{"a*: INT", "a: INT"}, others: "B.R B.w C.v", taken: true},
	{c: [2]string{"; c: BOOL", ""}, others: "B.R B.w C.v", taken: true},
	{c: [2]string{"c: BOOL", "c: INT"}, others: "B.R B.w C.v", taken: true},
	{c: [2]string{"VAR v*: S", "VAR v-: S"}, others: "C.v", taken: true},
	{c: [2]string{"VAR v*: S", "VAR v*: RECORD END"}, others: "C.v", taken: true},
	{c: [2]string{"VAR v*: S", "CONST v* = 0"}, others: "C.v", taken: true},
	{c: [2]string{"VAR v*: S", "TYPE v* = S"}, others: "C.v", taken: true},
	{b: [2]string{"(VAR a: Q)", "(a: Q)"}, others: "B.f", taken: true},
	{b: [2]string{"(VAR a: Q)", "(VAR b: Q)"}, others: "B.f", taken: true},
	{b: [2]string{"(VAR a: Q): INT", "(VAR a: Q)"}, others: "B.f", taken: true},
	{b: [2]string{"x*: INT; p*", "x*: BOOL; p*"}, others: "B.Q B.f", taken: true},
	{b: [2]string{"p*: POINTER TO Q", "p*: POINTER TO R"}, others: "B.Q B.f", taken: true},
	{b: [2]string{"VAR n*: INT", "VAR n*: BOOL"}, others: "B.n", taken: true},
	// What is not shown any more, or not there, or of another name.
	{c: [2]string{"VAR v*: S", "VAR v: S"}, others: "C.v"},
	{c: [2]string{"VAR v*: S", "VAR V*: S"}, others: "C.v"},
	{c: [2]string{"CONST n*", "CONST n"}, others: "C.n"},
	{c: [2]string{"TYPE U*", "TYPE U"}, oldB: true, others: "C.U"},
	{c: [2]string{"VAR v*: S; ", ""}, others: "C.v"},
	{b: [2]string{"k* = 4; TYPE R*", "k* = 4; TYPE R"}, others: "B.R"},
	{b: [2]string{"VAR n*: INT; ", ""}, others: "B.n"},
	{b: [2]string{"VAR w*: R; VAR n*: INT;", "VAR w*: INT; VAR n*: R;"}, others: "B.w B.n", taken: true},
	{b: [2]string{"CONST k* = 4; ", ""}, others: "B.k"},
}

// changedText tells a text with one part of it made otherwise.
func changedText(t *testing.T, text string, change [2]string) string {
	t.Helper()
	if strings.Count(text, change[0]) < 1 {
		t.Fatalf("no %q in %q", change[0], text)
	}
	return strings.Replace(text, change[0], change[1], 1)
}

func TestVersions(t *testing.T) {
	old := modsOf(t, textOfC, textOfB)
	client := scopeIn(t, textOfA, old)
	l := seenIn(t, client, old)
	for _, w := range versions {
		mods := modsOf(t, changedText(t, textOfC, w.c))
		if w.oldB {
			mods = append(mods, old[1])
		} else {
			mods = append(mods, exportOf(t, scopeIn(t, changedText(t, textOfB, w.b), mods)))
		}
		wantOthers(t, l, mods, w.others)
		if _, _, _, ok := impl.Compile(textOfA, mods); ok != w.taken {
			t.Errorf("by %v and %v A is taken: %v", w.c, w.b, ok)
		}
		if w.others == "" {
			wantToldTheSame(t, textOfA, client, l, modsModelOf(mods))
		}
		// Where A is taken by the new modules, what it saw of them is as it is.
		if w.taken {
			now := seenIn(t, scopeIn(t, textOfA, mods), mods)
			for i, one := range now {
				is := slices.Contains(usesOf(w.others), impl.Use{Mod: one.Mod, Name: one.Name})
				if one.Mod != l[i].Mod || one.Name != l[i].Name || (one.Sum != l[i].Sum) != is {
					t.Errorf("by %v and %v A sees %v and saw %v", w.c, w.b, one, l[i])
				}
			}
		}
	}
}

// TestModulesThatAreGone takes modules away, one by one and all.
func TestModulesThatAreGone(t *testing.T) {
	mods := modsOf(t, textOfC, textOfB)
	l := seenIn(t, scopeIn(t, textOfA, mods), mods)
	wantOthers(t, l, mods[:1], "B.k B.R B.Q B.w B.f B.n")
	wantOthers(t, l, mods[1:], "C.n C.U C.v")
	wantOthers(t, l, nil, usedByA)
	wantOthers(t, l, []impl.Scope{}, usedByA)
	other := copyOfMods(mods)
	other[1].Name = "b"
	wantOthers(t, l, other, "B.k B.R B.Q B.w B.f B.n")
	// C is called B, and B C: n is in both, and otherwise.
	other[0].Name, other[1].Name = "B", "C"
	wantOthers(t, l, other, usedByA)
	other[0].Objects, other[1].Objects = nil, nil
	other[0].Types, other[1].Types = impl.BaseTypes(), impl.BaseTypes()
	wantOthers(t, l, other, usedByA)
}

// TestWhatIsTakenFurther has a client that names one module alone, and is reached by what another one of
// which it knows nothing changes, as soon as the one between is compiled anew.
func TestWhatIsTakenFurther(t *testing.T) {
	texts := []string{textOfC, textOfB, textOfA}
	mods := modsOf(t, texts...)
	text := "MODULE D; IMPORT A; TYPE L* = ARRAY A.m OF A.T; END D."
	client := scopeIn(t, text, mods)
	l := seenIn(t, client, mods)
	if len(l) != 2 || l[0].Name != "m" || l[1].Name != "T" {
		t.Fatal(l)
	}
	anew := modsOf(t, changedText(t, textOfC, [2]string{"b-: CHAR", "b-: INT"}), textOfB, textOfA)
	wantOthers(t, l, anew, "A.T")
	for n := range mods {
		some := copyOfMods(mods)
		copy(some, anew[:n])
		wantOthers(t, l, some, "")
		wantToldTheSame(t, text, client, l, modsModelOf(some))
	}
	anew = modsOf(t, changedText(t, textOfC, [2]string{"n* = 3", "n* = 5"}), textOfB, textOfA)
	wantOthers(t, l, anew, "A.m A.T")
	anew = modsOf(t, textOfC, changedText(t, textOfB, [2]string{"k* = 4", "k* = 5"}), textOfA)
	wantOthers(t, l, anew, "A.m")
	anew = modsOf(t, textOfC, changedText(t, textOfB, [2]string{"n*: INT", "n*: CHAR"}), textOfA)
	wantOthers(t, l, anew, "")
	wantToldTheSame(t, text, client, l, modsModelOf(anew))
	anew = modsOf(t, textOfC, textOfB, changedText(t, textOfA, [2]string{"VAR x:", "VAR y*: INT; VAR x*:"}))
	wantOthers(t, l, anew, "")
	wantToldTheSame(t, text, client, l, modsModelOf(anew))
}

// TestTypesAreUses has a type alone in each place where one may stand.
func TestTypesAreUses(t *testing.T) {
	old := "MODULE B; CONST k* = 2; TYPE R* = RECORD a*: INT END; TYPE S* = RECORD (R) p*: POINTER TO R END; TYPE P* = POINTER TO S; END B."
	anew := changedText(t, old, [2]string{"a*: INT", "a*: CHAR"})
	taken := 0
	for _, decl := range []string{
		"VAR v: %", "VAR v: ARRAY 2 OF %", "VAR v: RECORD f: % END", "VAR v: RECORD f*: ARRAY 3 OF % END", "TYPE T = %", "TYPE T* = ARRAY 1 OF %",
		"VAR v: POINTER TO %", "TYPE T* = POINTER TO ARRAY 2 OF %", "VAR v: RECORD (%) END", "TYPE T = RECORD (%) f*: INT END",
		"PROC p (a: %)", "PROC p* (VAR a: %)", "PROC p (a: INT; b: %)", "PROC p (): %", "PROC p* (): POINTER TO %", "USE %",
	} {
		for _, of := range []string{"B.R", "B.S", "B.P"} {
			text := "MODULE A; IMPORT B; " + strings.Replace(decl, "%", of, 1) + "; END A."
			mods := modsOf(t, old)
			client, _, _, ok := impl.Compile(text, mods)
			if !ok {
				// A pointer is no Base of a record, and nothing to point to.
				continue
			}
			taken++
			l := seenIn(t, client, mods)
			if !slices.Equal(client.Uses, usesOf(of)) || len(l) != 1 {
				t.Errorf("%q uses %v", text, client.Uses)
			}
			wantOthers(t, l, modsOf(t, anew), of)
			wantOthers(t, l, modsOf(t, changedText(t, old, [2]string{"k* = 2", "k* = 3"})), "")
		}
	}
	if taken != 44 {
		t.Error("modules that use a type", taken)
	}
}

func TestSeenOfNoUses(t *testing.T) {
	mods := shown(t)
	for _, client := range []impl.Scope{clientOf("", ""), clientOf("B", ""), clientOf("B C", ""), clientOf("none", ""), exportOfFull(), mods[0]} {
		for _, some := range [][]impl.Scope{nil, {}, mods, mods[1:], numberedMods(8, 1)} {
			if l := seenIn(t, client, some); len(l) != 0 {
				t.Errorf("without uses %v is seen", l)
			}
		}
		wantUses(t, client, "B", true)
		wantUses(t, client, "Client", true)
	}
	for _, l := range [][]impl.Seen{nil, {}} {
		wantGoodSeen(t, l, true)
		wantOthers(t, l, nil, "")
		wantOthers(t, l, mods, "")
		if b, ok := impl.SeenBytes(l); b != "\x00" || !ok {
			t.Errorf("SeenBytes of none = %q, %v", b, ok)
		}
	}
	wantSeenRead(t, "\x00", nil, true)
}

func TestUsesThatNoModuleTells(t *testing.T) {
	mods := modsOf(t, textOfC, textOfB)
	for _, uses := range []string{
		"Zz.k", "Zz.k B.k", "B.k Zz.k", "B.k Zz.k C.n", "B.zz", "B.zz B.k", "B.k C.n B.zz", "B.k B.zz C.n", "C.k", "B.U", "B.K", "B.B", "B.INT", "C.h",
	} {
		client := clientOf("B C Zz", uses)
		wantNothingSeen(t, client, mods)
		checkSeen(t, client, modsModelOf(mods))
	}
	l := clientOf("C B", "C.v B.Q C.S B.R")
	if got := seenIn(t, l, mods); len(got) != 4 || got[2].Name != "S" {
		t.Error(got)
	}
	wantNothingSeen(t, l, mods[:1])
	wantNothingSeen(t, l, mods[1:])
	wantNothingSeen(t, l, nil)
	// A client may be called as a module is, and as one that it does not import.
	for _, name := range []string{"A", "D", "E"} {
		l.Name = name
		seenIn(t, l, append(mods, exportOfFull()))
	}
}

func TestUsesOfOneModule(t *testing.T) {
	s := fullScope()
	wantUses(t, s, "B", true, "x", "y")
	wantUses(t, s, "Cc", true, "x")
	for _, name := range goodNames {
		wantUses(t, s, name, true)
	}
	for _, name := range badNames {
		wantUses(t, s, name, false)
	}
	for _, name := range []string{"A", "b", "C", "cc", "x"} {
		wantUses(t, s, name, true)
	}
	for _, bad := range badScopes() {
		for _, name := range []string{"B", "Cc", "A", ""} {
			wantUses(t, bad, name, false)
		}
	}
	most := mostUsing(t)
	for n, mod := range most.Imports {
		var want []string
		for _, use := range most.Uses[10*n : 10*n+10] {
			want = append(want, use.Name)
		}
		wantUses(t, most, mod, true, want...)
	}
}

// mostUsing uses ten constants of each of four of numberedMods.
func mostUsing(t *testing.T) impl.Scope {
	t.Helper()
	s := clientOf("D0 D7 D3 D1", "")
	for n := range mostUses {
		s.Uses = append(s.Uses, impl.Use{Mod: s.Imports[n/10], Name: "k" + strconv.Itoa(9-n%10)})
	}
	return s
}

func TestMaxSeen(t *testing.T) {
	mods := numberedMods(8, 16)
	client := mostUsing(t)
	l := seenIn(t, client, mods)
	if len(l) != 40 {
		t.Fatal(l)
	}
	wantOthers(t, l, mods, "")
	wantOthers(t, l, mods[:1], wordsOf(l[10:]))
	mods[7].Objects[0].Value, mods[7].Objects[9].Value = 77, 77
	wantOthers(t, l, mods, "D7.k9 D7.k0")
	more := append(slices.Clone(l), impl.Seen{Mod: "E", Name: "x"})
	wantGoodSeen(t, l, true)
	wantGoodSeen(t, more, false)
	wantGoodSeen(t, more[1:], true)
	wantGoodSeen(t, slices.Repeat(l, 2), false)
	wantGoodSeen(t, make([]impl.Seen, 100000), false)
	client.Uses = append(client.Uses, impl.Use{Mod: "D1", Name: "k10"})
	wantNothingSeen(t, client, mods)
	wantUses(t, client, "D1", false)
	// As many bytes as can be.
	var longest []impl.Seen
	for n := range 40 {
		longest = append(longest, impl.Seen{Mod: "moduleName", Name: "objectNa" + strconv.Itoa(10+n), Sum: math.MaxInt})
	}
	wantGoodSeen(t, longest, true)
	b, _ := impl.SeenBytes(longest)
	if len(b) != 1201 || b[0] != 80 {
		t.Error(len(b), b[0])
	}
	wantSeenRead(t, b, longest, true)
	wantSeenRead(t, "\x52"+seenByHand(more)[1:], nil, false)
	wantSeenRead(t, "\x52"+b[1:], nil, false)
}

// wordsOf tells of what Mods and Names some seen are.
func wordsOf(l []impl.Seen) string {
	var words []string
	for _, one := range l {
		words = append(words, one.Mod+"."+one.Name)
	}
	return strings.Join(words, " ")
}

func TestSeenAreUnlike(t *testing.T) {
	wantGoodSeen(t, seenOf("B.k B.k", 1, 2), false)
	wantGoodSeen(t, seenOf("B.k B.k", 1, 1), false)
	wantGoodSeen(t, seenOf("B.k C.k B.k", 0, 5), false)
	wantGoodSeen(t, seenOf("B.k C.k", 3, 3), true)
	wantGoodSeen(t, seenOf("B.k B.K b.k b.K B.B k.B k.k", 3), true)
	wantGoodSeen(t, seenOf("ab.c a.bc abc.a abca.b", 3), true)
	var l []impl.Seen
	for n := range 40 {
		l = append(l, impl.Seen{Mod: "M" + strconv.Itoa(n%5), Name: "n" + strconv.Itoa(n/5), Sum: n})
	}
	wantGoodSeen(t, l, true)
	for x := range l {
		for y := range x {
			twice := slices.Clone(l)
			twice[x].Mod, twice[x].Name = l[y].Mod, l[y].Name
			wantGoodSeen(t, twice, false)
			wantSeenRead(t, seenByHand(twice), nil, false)
		}
	}
}

func TestNamesOfSeen(t *testing.T) {
	for _, name := range goodNames {
		wantGoodSeen(t, []impl.Seen{{Mod: name, Name: name}, {Mod: "B0", Name: name}, {Mod: name, Name: "k0"}}, true)
	}
	for _, name := range badNames {
		for _, one := range []impl.Seen{{Mod: name, Name: "k"}, {Mod: "B", Name: name}, {Mod: name, Name: name}} {
			wantGoodSeen(t, []impl.Seen{one}, false)
			wantGoodSeen(t, append(seenOf("B.l C.k", 4), one), false)
			wantGoodSeen(t, append([]impl.Seen{one}, seenOf("B.l C.k", 4)...), false)
			if len(name) < 256 {
				wantSeenRead(t, seenByHand([]impl.Seen{one}), nil, false)
			}
		}
	}
}

// sumBytes are sums, and the eight bytes of each.
var sumBytes = map[int]string{
	0: "\x00\x00\x00\x00\x00\x00\x00\x00", 1: "\x00\x00\x00\x00\x00\x00\x00\x01", 255: "\x00\x00\x00\x00\x00\x00\x00\xff",
	256: "\x00\x00\x00\x00\x00\x00\x01\x00", 0x0102030405060708: "\x01\x02\x03\x04\x05\x06\x07\x08", 0x7f80000000000081: "\x7f\x80\x00\x00\x00\x00\x00\x81",
	1 << 31: "\x00\x00\x00\x00\x80\x00\x00\x00", 1<<32 - 1: "\x00\x00\x00\x00\xff\xff\xff\xff", 1 << 32: "\x00\x00\x00\x01\x00\x00\x00\x00",
	1<<62 - 1: "\x3f\xff\xff\xff\xff\xff\xff\xff", 1 << 62: "\x40\x00\x00\x00\x00\x00\x00\x00", math.MaxInt: "\x7f\xff\xff\xff\xff\xff\xff\xff",
	math.MaxInt - 1: "\x7f\xff\xff\xff\xff\xff\xff\xfe",
}

func TestSumsOfSeen(t *testing.T) {
	for sum, bytes := range sumBytes {
		one := seenOf("B.k", sum)
		wantGoodSeen(t, one, true)
		if b, ok := impl.SeenBytes(one); b != "\x02\x01B\x01k"+bytes || !ok {
			t.Errorf("SeenBytes(%v) = %q, %v", one, b, ok)
		}
		wantSeenRead(t, "\x02\x01B\x01k"+bytes, one, true)
		// With the highest bit it is no sum.
		wantSeenRead(t, "\x02\x01B\x01k"+string([]byte{bytes[0] | 0x80})+bytes[1:], nil, false)
		wantSeenRead(t, "\x04\x01B\x01k"+string([]byte{bytes[0] | 0x80})+bytes[1:]+"\x01C\x01k"+bytes, nil, false)
	}
	for n := range 63 {
		for _, sum := range []int{1 << n, 1<<n - 1, 1<<n + 1<<(n/2)} {
			wantGoodSeen(t, seenOf("B.k C.k", sum, 7), true)
			wantGoodSeen(t, seenOf("B.k C.k", 7, -1-sum), false)
		}
	}
	for _, sum := range []int{-1, -2, -255, -1 << 31, -1 << 32, -1 << 62, math.MinInt, math.MinInt + 1} {
		wantGoodSeen(t, seenOf("B.k", sum), false)
		wantGoodSeen(t, seenOf("B.k B.l", sum, 0), false)
		b := binary.BigEndian.AppendUint64([]byte("\x02\x01B\x01k"), uint64(sum))
		wantSeenRead(t, string(b), nil, false)
	}
}

// TestSumsThatAreNotThere: 0 is what FingerAt tells of what is not there, and it is no sum of that.
func TestSumsThatAreNotThere(t *testing.T) {
	mods := shown(t)
	wantOthers(t, seenOf("Zz.k B.zz B.k C.T", 0), mods, "Zz.k B.zz B.k C.T")
	wantOthers(t, seenOf("Zz.k B.h B.h2", 0), nil, "Zz.k B.h B.h2")
	// The sum of one is not that of another one, nor that of one so called in another module.
	l := seenIn(t, clientOf("B C", "B.k C.k B.R B.S"), mods)
	l[0].Sum, l[1].Sum = l[1].Sum, l[0].Sum
	wantOthers(t, l, mods, "B.k C.k")
	l[2].Sum, l[3].Sum = l[3].Sum, l[2].Sum
	wantOthers(t, l, mods, "B.k C.k B.R B.S")
	slices.Reverse(l)
	wantOthers(t, l, mods, "B.S B.R C.k B.k")
	for n := range 62 {
		one := seenIn(t, clientOf("B", "B.k B.R"), mods)
		one[1].Sum ^= 1 << n
		wantOthers(t, one, mods, "B.R")
	}
	// Constants of one value and two names, and in modules of two names, are told apart by their names alone.
	twins := []impl.Scope{{Name: "B", Types: impl.BaseTypes(), Objects: []impl.Object{constOf("x", 1, 1), constOf("y", 1, 1)}}}
	twins = append(twins, changedScope(twins[0], func(s *impl.Scope) { s.Name = "C" }))
	l = seenIn(t, clientOf("B C", "B.x C.x B.y C.y"), twins)
	if l[0].Sum != l[1].Sum || l[2].Sum != l[3].Sum || l[0].Sum == l[2].Sum {
		t.Error(l)
	}
	twins[1].Objects = twins[1].Objects[1:]
	wantOthers(t, l, twins, "C.x")
}

// TestBytesOfSeen takes each byte of some lists away, makes it each other byte, and puts each byte in.
func TestBytesOfSeen(t *testing.T) {
	for _, l := range [][]impl.Seen{nil, seenOf("B.k", 0), seenOf("B.k Cc.R9 B.x", 4306798251696492974, math.MaxInt, 1), seenOf("abcdefghij.abcdefghij B.abcdefghij", 1<<62-1, 2)} {
		wantGoodSeen(t, l, true)
		b := seenByHand(l)
		wantSeenRead(t, b, l, true)
		for n := range len(b) + 1 {
			if n < len(b) {
				wantSeenRead(t, b[:n], nil, false)
				checkSeenRead(t, b[:n]+b[n+1:])
			}
			for c := range 256 {
				one := string([]byte{byte(c)})
				checkSeenRead(t, b[:n]+one+b[n:])
				if n < len(b) {
					checkSeenRead(t, b[:n]+one+b[n+1:])
				}
			}
		}
		for _, more := range []string{"\x00", "a", "\x01B", b, strings.Repeat("\x00", 8), strings.Repeat("\x00", 3000)} {
			wantSeenRead(t, b+more, nil, false)
		}
	}
}

func TestHowManyWereSeen(t *testing.T) {
	l := seenOf("B.k C.k", 1)
	rest := seenByHand(l)[1:]
	for _, many := range append(someNumbers(), 40, 41, 64) {
		b := numberByHand(many) + rest
		if many == 2 {
			wantSeenRead(t, b, l, true)
		} else {
			wantSeenRead(t, b, nil, false)
		}
	}
	// Longer than it must be, cut off, and of a number that is too large.
	for _, ahead := range []string{"\x84\x00", "\x84\x80\x00", "\x84\x80\x80\x80\x00", "\x84\x80\x80\x80\x80\x00", "\x80", "\x80\x80\x80\x80\x80", "\x84", "\x84\x80\x80\x80\x10", "\xff\xff\xff\xff\x7f"} {
		wantSeenRead(t, ahead+rest, nil, false)
		wantSeenRead(t, ahead, nil, false)
	}
	for _, b := range []string{"", "\x80\x00", "\x02", "\x01", "\x03", "\x50", "\x52", "\x00\x00", "\xff"} {
		wantSeenRead(t, b, nil, false)
	}
	for _, long := range []int{1200, 1202, 2999, 3000, 3001, 3002, 5000, 1000000} {
		for _, c := range []string{"\x00", "\x50", "\x01", "a", "\xff"} {
			wantSeenRead(t, strings.Repeat(c, long), nil, false)
		}
		wantSeenRead(t, numberByHand(2)+rest+strings.Repeat("\x00", long), nil, false)
	}
}

func TestSeenOfWhatIsNotGood(t *testing.T) {
	mods := append(shown(t), exportOfFull())
	mods[2].Name = "Cc"
	client := clientOf("B C", "B.k C.T B.f")
	l := seenIn(t, client, mods)
	for _, bad := range badScopes() {
		wantNothingSeen(t, bad, mods)
		wantNothingSeen(t, bad, nil)
		// Nothing of it is used.
		some := append(copyOfMods(mods), bad)
		wantNothingSeen(t, client, some)
		wantNothingSeen(t, clientOf("", ""), some)
		wantNotChecked(t, l, some)
		wantNotChecked(t, nil, some)
	}
	for _, some := range [][]impl.Scope{
		append(copyOfMods(mods), mods[0]), append(copyOfMods(mods), fullScope()), numberedMods(9, 1), append(numberedMods(7, 1), mods[0], mods[1]), make([]impl.Scope, 3), numberedMods(1000, 0),
	} {
		wantNothingSeen(t, client, some)
		wantNotChecked(t, l, some)
	}
	most := append(numberedMods(6, 1), mods[0], mods[1])
	wantOthers(t, l, most, "")
	if got := seenIn(t, client, most); !slices.Equal(got, l) {
		t.Error(got)
	}
}

func copyOfSeen(l []impl.Seen) []impl.Seen {
	return slices.Clone(l)
}

// callSeen calls each function of the chapter.
func callSeen(s impl.Scope, mods []impl.Scope, l []impl.Seen, text string) {
	impl.GoodSeen(l)
	impl.SeenIn(s, mods)
	impl.CheckSeen(l, mods)
	impl.MustCompile(l, mods)
	impl.UsesOf(s, text)
	impl.SeenBytes(l)
	impl.ReadSeen(text)
}

func TestSeenWritesIntoNothing(t *testing.T) {
	lists := [][]impl.Seen{nil, seenOf("B.k C.T B.zz", 0, 1, 2), seenOf("B.k B.k", 0), seenOf("B.k", -1), make([]impl.Seen, 41)}
	scopes := append(badScopes(), fullScope(), clientOf("B C", "B.k C.T"), clientOf("B C", "B.k C.T B.zz"))
	for i, s := range scopes {
		mods := shown(t)
		if i%3 == 0 {
			mods = append(mods, s)
		}
		for _, l := range lists {
			before, kept, seen := copyOfScope(s), copyOfMods(mods), copyOfSeen(l)
			callSeen(s, mods, l, "B")
			if !reflect.DeepEqual(s, before) || !reflect.DeepEqual(mods, kept) || !reflect.DeepEqual(l, seen) {
				t.Fatalf("scope %d, its modules or %v are written into", i, l)
			}
		}
	}
}

func TestWhatLiesBehindSeen(t *testing.T) {
	plain := shown(t)
	var mods []impl.Scope
	var same []func() bool
	for _, m := range plain {
		apart, is := laidApart(m)
		mods, same = append(mods, apart), append(same, is)
	}
	mods, room := behind(mods, exportOfFull(), impl.Scope{})
	keptRoom := copyOfMods(room)
	client, is := laidApart(clientOf("B C", "B.k C.T B.f"))
	same = append(same, is)
	l, ok := impl.SeenIn(client, mods)
	if !ok || wordsOf(l) != "B.k C.T B.f" {
		t.Fatal(l, ok)
	}
	wantUses(t, client, "B", true, "k", "f")
	l, seenRoom := behind(l, impl.Seen{Mod: "B", Name: "k"}, impl.Seen{Mod: "B", Name: "far", Sum: -1})
	keptSeen := copyOfSeen(seenRoom)
	wantGoodSeen(t, l, true)
	wantOthers(t, l, mods, "")
	wantOthers(t, append(l[:1:1], seenOf("A.R B.far C.far", 1)...), mods, "A.R B.far C.far")
	callSeen(client, mods, l, "B")
	for i, is := range same {
		if !is() {
			t.Errorf("what lies behind the lists of scope %d is written into", i)
		}
	}
	if !reflect.DeepEqual(room, keptRoom) || !slices.Equal(seenRoom, keptSeen) {
		t.Error("what lies behind the modules, or what was seen, is written into")
	}
}

func TestSeenAnswersAreNewMemory(t *testing.T) {
	var mods []impl.Scope
	var given []string
	for _, m := range shown(t) {
		m = withOwnTexts(m)
		mods, given = append(mods, m), append(given, textsOf(m)...)
	}
	client := clientOf(strings.Clone("B C"), strings.Clone("B.k C.T B.f"))
	for _, use := range client.Uses {
		given = append(given, use.Mod, use.Name)
	}
	first, _ := impl.SeenIn(client, mods)
	second, _ := impl.SeenIn(client, mods)
	apart(t, first, second)
	for _, one := range first {
		apartTexts(t, given, one.Mod, one.Name)
	}
	names, _ := impl.UsesOf(client, "B")
	again, _ := impl.UsesOf(client, "B")
	apart(t, names, again)
	apartTexts(t, given, names...)
	kept := copyOfSeen(second)
	clear(first[:cap(first)])
	clear(names[:cap(names)])
	if third := seenIn(t, client, mods); !slices.Equal(second, kept) || !slices.Equal(third, kept) || !slices.Equal(again, []string{"k", "f"}) {
		t.Error("an answer is kept", second, third, again)
	}
	wantUses(t, client, "B", true, "k", "f")
	wantNewOthers(t, second)
	b, _ := impl.SeenBytes(second)
	read, _ := impl.ReadSeen(b)
	readAgain, _ := impl.ReadSeen(b)
	apart(t, read, readAgain)
	apart(t, read, second)
	for _, one := range read {
		apartTexts(t, []string{b, second[0].Mod, second[0].Name}, one.Mod, one.Name)
	}
	clear(read[:cap(read)])
	if !slices.Equal(readAgain, kept) {
		t.Error("what was read is kept", readAgain)
	}
}

// wantNewOthers asks for new memory of all that is otherwise.
func wantNewOthers(t *testing.T, l []impl.Seen) {
	t.Helper()
	var given []string
	for _, one := range l {
		given = append(given, one.Mod, one.Name)
	}
	first, _ := impl.CheckSeen(l, nil)
	second, _ := impl.CheckSeen(l, nil)
	apart(t, first, second)
	for _, use := range first {
		apartTexts(t, given, use.Mod, use.Name)
	}
	kept := slices.Clone(second)
	clear(first[:cap(first)])
	if len(kept) != len(l) || !slices.Equal(second, kept) {
		t.Error("an answer is kept", second)
	}
	wantOthers(t, l, nil, wordsOf(l))
}

// TestNothingIsKeptOfSeen changes modules between calls, and asks from many sides at once.
func TestNothingIsKeptOfSeen(t *testing.T) {
	mods := shown(t)
	l := seenIn(t, clientOf("B C", "B.k C.k"), mods)
	mods[1].Objects[2].Value++
	wantOthers(t, l, mods, "C.k")
	mods[1].Objects[2].Value--
	wantOthers(t, l, mods, "")
	wantOthers(t, l, mods[1:], "B.k")
	wantOthers(t, l, mods, "")
	for i := range 8 {
		t.Run("side", func(t *testing.T) {
			t.Parallel()
			for k := range 20 {
				if (i+k)%2 == 0 {
					wantOthers(t, l, mods, "")
				} else {
					wantOthers(t, l, mods[:1], "C.k")
				}
				wantGoodSeen(t, l, true)
			}
		})
	}
}

// TestSeenAnswersAnything: a panic fails.
func TestSeenAnswersAnything(t *testing.T) {
	r := &row{seed: 51}
	for range 1500 {
		var mods []impl.Scope
		for range r.below(10) {
			m := r.someScope()
			if scopeByForm(m) && r.below(8) > 0 {
				m = exportByStack(m)
				m.Name = seenTexts[r.below(len(seenTexts))]
			}
			mods = append(mods, m)
		}
		client := r.changed(r.someScope())
		for range r.below(4) {
			use := impl.Use{Mod: seenTexts[r.below(10)], Name: seenTexts[r.below(10)]}
			client.Imports, client.Uses = append(client.Imports, use.Mod), append(client.Uses, use)
		}
		l := r.someSeen()
		m := modsModelOf(mods)
		checkSeen(t, client, m)
		checkCheck(t, l, m)
		checkSeenList(t, l)
		texts := append([]string{"B", "\xff", strings.Repeat("\x50", 1+r.below(4000))}, badNames...)
		callSeen(client, mods, l, texts[r.below(len(texts))])
	}
}
