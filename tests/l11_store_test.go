package tests

import (
	"fmt"
	"reflect"
	"slices"
	"strconv"
	"strings"
	"testing"

	"loop.example/g00837/impl"
)

// storeOf tells a store of texts that must be taken, one behind the other.
func storeOf(t *testing.T, texts ...string) []impl.Module {
	t.Helper()
	return putInto(t, nil, texts...)
}

// putInto tells a store with texts in it that must be taken.
func putInto(t *testing.T, l []impl.Module, texts ...string) []impl.Module {
	t.Helper()
	for _, text := range texts {
		next, code := checkPut(t, l, text)
		if code != 0 {
			t.Fatalf("PutModule(%v, %q) tells %d", l, text, code)
		}
		l = next
		checkStore(t, l)
	}
	return l
}

// filedInto tells a store with the files of scopes in it.
func filedInto(t *testing.T, l []impl.Module, scopes ...impl.Scope) []impl.Module {
	t.Helper()
	for _, s := range scopes {
		next, code := checkFile(t, l, fileByHand(s))
		if code != 0 {
			t.Fatalf("PutFile(%v) of %v tells %d", l, s, code)
		}
		l = next
		checkStore(t, l)
	}
	return l
}

func dropped(t *testing.T, l []impl.Module, names ...string) []impl.Module {
	t.Helper()
	for _, name := range names {
		next, ok := impl.DropModule(l, name)
		if !ok || len(next) != len(l)-1 || numberIn(next, name) >= 0 {
			t.Fatalf("DropModule(%v, %q) = %v, %v", l, name, next, ok)
		}
		l = next
		checkStore(t, l)
	}
	return l
}

func storeNames(l []impl.Module) string {
	var names []string
	for _, one := range l {
		names = append(names, one.Scope.Name)
	}
	return strings.Join(names, " ")
}

func wantNames(t *testing.T, l []impl.Module, names string) {
	t.Helper()
	if got := storeNames(l); got != names {
		t.Errorf("the modules are %s, want %s", got, names)
	}
}

func wantWhy(t *testing.T, l []impl.Module, name, words string) {
	t.Helper()
	if got, ok := impl.WhyStale(l, name); !slices.Equal(got, usesOf(words)) || !ok {
		t.Errorf("WhyStale(%v, %q) = %v, %v, want %s", l, name, got, ok, words)
	}
}

// wantNotPut asks for a code and a place, and for nothing else.
func wantNotPut(t *testing.T, l []impl.Module, text string, code, at int) {
	t.Helper()
	before := copyOfStore(l)
	got, gotCode, gotAt, ok := impl.PutModule(l, text)
	if len(got) != 0 || gotCode != code || gotAt != at || ok || !reflect.DeepEqual(l, before) {
		t.Errorf("PutModule(%v, %q) = %v, %d, %d, %v, want %d, %d", l, text, got, gotCode, gotAt, ok, code, at)
	}
	checkPut(t, l, text)
}

func wantNotFiled(t *testing.T, l []impl.Module, b string, code, at int) {
	t.Helper()
	before := copyOfStore(l)
	got, gotCode, gotAt, ok := impl.PutFile(l, b)
	if len(got) != 0 || gotCode != code || gotAt != at || ok || !reflect.DeepEqual(l, before) {
		t.Errorf("PutFile(%v, %q) = %v, %d, %d, %v, want %d, %d", l, b, got, gotCode, gotAt, ok, code, at)
	}
	checkFile(t, l, b)
}

func wantGoodStore(t *testing.T, l []impl.Module, good bool) {
	t.Helper()
	if checkStore(t, l) != good {
		t.Errorf("GoodStore(%v) is not %v", l, good)
	}
}

// wantSameStore asks both ways.
func wantSameStore(t *testing.T, a, b []impl.Module, same bool) {
	t.Helper()
	if impl.SameStore(a, b) != same || impl.SameStore(b, a) != same {
		t.Errorf("SameStore(%v, %v) is not %v", a, b, same)
	}
}

// numberedStore tells a store of that many modules, D0, D1 and so on, with a constant k0 each.
func numberedStore(many int) []impl.Module {
	var l []impl.Module
	for _, s := range numberedMods(many, 1) {
		l = append(l, impl.Module{Scope: s})
	}
	return l
}

// TestStoreByHand has a store that was written down without the program.
func TestStoreByHand(t *testing.T) {
	r := calledSo(recordOf(-1, field("a", 1, 0), field("", 0, 4)), "B", "R")
	b := impl.Module{Scope: impl.Scope{Name: "B", Types: tableOf(r, pointerTo(3)), Objects: []impl.Object{constOf("k", 1, 4), typeOf("R", 1, 3), varOf("v", 1, 3)}}}
	a := impl.Module{
		Scope: impl.Scope{Name: "A", Types: tableOf(r, pointerTo(3)), Objects: []impl.Object{constOf("n", 1, 4), varOf("x", 2, 3)}},
		Seen:  []impl.Seen{{Mod: "B", Name: "k", Sum: 979582043678755023}, {Mod: "B", Name: "R", Sum: 439785478226998361}, {Mod: "B", Name: "v", Sum: 1639917179897020894}},
	}
	l := storeOf(t, "MODULE B; CONST k* = 2 * 2; TYPE R* = RECORD a*: INT; p: POINTER TO R END; VAR v*: R; VAR w: INT; END B.")
	if !sameStoreByHand(l, []impl.Module{b}) {
		t.Errorf("the store is %v, want %v", l, b)
	}
	l = putInto(t, l, "MODULE A; IMPORT B; CONST n* = B.k; VAR h: ARRAY 3 OF B.R; USE B.v; VAR x-: B.R; END A.")
	if !sameStoreByHand(l, []impl.Module{b, a}) {
		t.Errorf("the store is %v, want %v and %v", l, b, a)
	}
	wantWhy(t, l, "A", "")
	b.Scope.Objects[0].Value = 5
	wantWhy(t, []impl.Module{b, a}, "A", "B.k")
	wantStale(t, []impl.Module{a, b}, "A")
	a.Seen[0].Sum = 989975923433315431
	wantWhy(t, []impl.Module{b, a}, "A", "")
	wantStale(t, []impl.Module{b, a})
}

func TestEmptyStore(t *testing.T) {
	for _, l := range [][]impl.Module{nil, {}} {
		wantGoodStore(t, l, true)
		wantStale(t, l)
		if mods, ok := impl.ModsOf(l); len(mods) != 0 || !ok {
			t.Errorf("ModsOf none = %v, %v", mods, ok)
		}
		wantNoneCalled(t, l, append([]string{"A", "B"}, badNames...)...)
		wantSameStore(t, l, nil, true)
		wantSameStore(t, l, []impl.Module{}, true)
		wantSameStore(t, l, make([]impl.Module, 1), false)
		wantNames(t, putInto(t, l, "MODULE A; END A."), "A")
		wantNames(t, filedInto(t, l, ringScope()), "A")
		wantNotPut(t, l, "MODULE A; IMPORT B; END A.", 35, 17)
		wantNotPut(t, l, "", 20, 0)
		wantNotFiled(t, l, "", 2, 0)
	}
}

// TestModulesAreToldAndSeen asks for what is kept of a text: what it tells to others, and what it saw.
func TestModulesAreToldAndSeen(t *testing.T) {
	var l []impl.Module
	for _, text := range []string{textOfC, textOfB, textOfA} {
		mods := scopesIn(l)
		s := scopeIn(t, text, mods)
		seen, _ := impl.SeenIn(s, mods)
		export := exportOf(t, s)
		l = putInto(t, l, text)
		last := l[len(l)-1]
		if !sameByHand(last.Scope, export) || !slices.Equal(last.Seen, seen) || len(seen) != len(s.Uses) {
			t.Errorf("of %q is kept %v, want %v and %v", text, last, export, seen)
		}
		if len(s.Imports) > 0 && len(seen) == 0 || len(last.Scope.Imports) > 0 {
			t.Errorf("of %q %v is seen", text, seen)
		}
	}
	wantNames(t, l, "C B A")
	if wordsOf(l[2].Seen) != usedByA {
		t.Error(l[2].Seen)
	}
	mods, ok := impl.ModsOf(l)
	if !ok || !slices.EqualFunc(mods, modsOf(t, textOfC, textOfB, textOfA), sameByHand) {
		t.Errorf("ModsOf tells %v", mods)
	}
	wantStale(t, l)
	// What only an import that is not used shows is not seen.
	l = putInto(t, l, "MODULE D; IMPORT A, B, C; CONST x = B.k; END D.", "MODULE E; IMPORT A, D; END E.", "MODULE F; END F.")
	if wordsOf(l[3].Seen) != "B.k" || len(l[4].Seen)+len(l[5].Seen) != 0 || len(l[3].Scope.Objects) != 0 {
		t.Error(l[3:])
	}
}

// TestPlacesOfModules puts each module of a store anew, and further ones behind all.
func TestPlacesOfModules(t *testing.T) {
	l := storeOf(t, textOfC, textOfB, textOfA)
	for n, text := range []string{
		"MODULE C; CONST n* = 4; END C.", "MODULE B; IMPORT C; CONST k* = C.n; END B.", "MODULE A; IMPORT B; VAR y*: B.Q; END A.",
	} {
		got := putInto(t, l, text)
		wantNames(t, got, "C B A")
		for i := range l {
			if same := sameStoreByHand(got[i:i+1], l[i:i+1]); same != (i != n) {
				t.Errorf("behind %q module %d is the same: %v", text, i, same)
			}
		}
		other := filedInto(t, l, got[n].Scope)
		wantNames(t, other, "C B A")
		if len(other[n].Seen) != 0 || !sameByHand(other[n].Scope, got[n].Scope) {
			t.Errorf("of its file %v is kept", other[n])
		}
	}
	got := putInto(t, l, textOfC, textOfB, textOfA)
	wantSameStore(t, got, l, true)
	got = putInto(t, l, "MODULE Bb; IMPORT B; USE B.k; END Bb.", "MODULE a; END a.", "MODULE AA; IMPORT A; END AA.", textOfB)
	wantNames(t, got, "C B A Bb a AA")
	wantSameStore(t, got[:3], l, true)
	// The order is that in which they came, not that of their names, nor that of what they need.
	got = storeOf(t, "MODULE Z; END Z.", "MODULE C; END C.", "MODULE M; END M.", "MODULE A; END A.", "MODULE X; END X.", "MODULE B; END B.", "MODULE Y; END Y.", "MODULE D; END D.")
	for range 20 {
		got = putInto(t, got, "MODULE M; IMPORT D; END M.")
		wantNames(t, got, "Z C M A X B Y D")
	}
}

// TestStaleByVersions changes C and B below A, as chapter 9 has it.
func TestStaleByVersions(t *testing.T) {
	old := storeOf(t, textOfC, textOfB, textOfA)
	for _, w := range versions {
		l := putInto(t, old, changedText(t, textOfC, w.c))
		if !w.oldB {
			l = putInto(t, l, changedText(t, textOfB, w.b))
		}
		wantNames(t, l, "C B A")
		wantWhy(t, l, "A", w.others)
		wantWhy(t, l, "C", "")
		stale, _ := impl.StaleIn(l)
		if slices.Contains(stale, "A") != (w.others != "") || slices.Contains(stale, "C") {
			t.Errorf("by %v and %v are stale %v", w.c, w.b, stale)
		}
		if _, code := checkPut(t, l, textOfA); (code == 0) != w.taken {
			t.Errorf("by %v and %v A is told %d", w.c, w.b, code)
		}
		if w.taken {
			wantWhy(t, putInto(t, l, textOfA), "A", "")
		}
		// As it was.
		wantStale(t, putInto(t, l, textOfC, textOfB))
	}
}

func TestWhatIsStale(t *testing.T) {
	l := storeOf(t, textOfC, textOfB, textOfA, "MODULE E; IMPORT C; USE C.v; END E.", "MODULE F; IMPORT A, B, C; END F.")
	wantStale(t, l)
	now := putInto(t, l, changedText(t, textOfC, [2]string{"n* = 3", "n* = 4"}))
	wantStale(t, now, "B", "A")
	wantWhy(t, now, "B", "C.U")
	wantWhy(t, now, "A", "C.n C.U")
	for _, name := range []string{"C", "E", "F"} {
		wantWhy(t, now, name, "")
	}
	// Something else that is shown, and something that is not.
	for _, change := range [][2]string{{"h = 9", "h = 10"}, {"CONST h = 9;", "CONST h* = 9; VAR y*: INT;"}, {"n* = 3", "n* = 2 + 1"}} {
		wantStale(t, putInto(t, l, changedText(t, textOfC, change)))
	}
	now = putInto(t, l, changedText(t, textOfC, [2]string{"VAR v*: S", "VAR v: S"}))
	wantStale(t, now, "A", "E")
	wantWhy(t, now, "E", "C.v")
	// One behind the other is no more stale, and makes others so.
	now = putInto(t, l, changedText(t, textOfC, [2]string{"a*: INT", "a*: BOOL"}))
	wantStale(t, now, "B", "A", "E")
	wantWhy(t, now, "A", "C.v")
	now = putInto(t, now, textOfB)
	wantStale(t, now, "A", "E")
	wantWhy(t, now, "A", "B.R B.w C.v")
	now = putInto(t, now, textOfA)
	wantStale(t, now, "E")
	wantNames(t, now, "C B A E F")
	wantNoneCalled(t, now, append([]string{"D", "c", "e", "EE", "k", "v"}, badNames...)...)
}

func TestDroppedModules(t *testing.T) {
	l := storeOf(t, textOfC, textOfB, textOfA, "MODULE E; END E.")
	first := dropped(t, l, "C")
	wantNames(t, first, "B A E")
	wantStale(t, first, "B", "A")
	wantWhy(t, first, "B", "C.S C.U")
	wantWhy(t, first, "A", "C.n C.U C.v")
	middle := dropped(t, l, "B")
	wantNames(t, middle, "C A E")
	wantStale(t, middle, "A")
	wantWhy(t, middle, "A", "B.k B.R B.Q B.w B.f B.n")
	last := dropped(t, l, "A", "E")
	wantNames(t, last, "C B")
	wantStale(t, last)
	wantWhy(t, dropped(t, l, "C", "B"), "A", usedByA)
	wantNoneCalled(t, first, "C")
	wantNoneCalled(t, l, append([]string{"D", "c", "CC", "k"}, badNames...)...)
	for n := range l {
		if got := dropped(t, l, l[n].Scope.Name); !sameStoreByHand(got, slices.Concat(l[:n], l[n+1:])) {
			t.Errorf("without %d %v is left", n, got)
		}
	}
	for _, names := range []string{"C B A E", "E A B C", "B E C A"} {
		if got := dropped(t, l, strings.Fields(names)...); len(got) != 0 {
			t.Errorf("without any %v is left", got)
		}
	}
	// Put again it comes behind all, and nothing is stale then.
	again := putInto(t, first, textOfC)
	wantNames(t, again, "B A E C")
	wantStale(t, again)
	wantSameStore(t, again[3:], l[:1], true)
	again = putInto(t, middle, textOfB, "MODULE G; END G.")
	wantNames(t, again, "C A E B G")
	wantStale(t, again)
	wantNames(t, putInto(t, dropped(t, putInto(t, dropped(t, l, "B", "E"), "MODULE H; END H."), "C"), textOfC), "A H C")
}

func TestFilesInStores(t *testing.T) {
	l := storeOf(t, textOfC, textOfB, textOfA)
	var files []impl.Module
	for n, one := range l {
		files = filedInto(t, files, one.Scope)
		if len(files) != n+1 || len(files[n].Seen) != 0 || !sameByHand(files[n].Scope, one.Scope) {
			t.Errorf("of the file of %v is kept %v", one, files)
		}
	}
	wantStale(t, files)
	wantSameStore(t, files, l, false)
	wantSameStore(t, files[:1], l[:1], true)
	// What the module of a file saw is not known, so that it is never stale.
	other := changedText(t, textOfC, [2]string{"n* = 3", "n* = 4"})
	wantStale(t, putInto(t, files, other))
	wantStale(t, putInto(t, filedInto(t, l, l[1].Scope), other), "A")
	wantStale(t, dropped(t, filedInto(t, l, l[2].Scope), "C"), "B")
	// A file makes others stale as a text does.
	c := exportOf(t, scopeIn(t, other, nil))
	got := filedInto(t, l, c)
	wantSameStore(t, got, putInto(t, l, other), true)
	wantWhy(t, got, "A", "C.n C.U")
	wantWhy(t, got, "B", "C.U")
	got = filedInto(t, got, exportOfFull(), ringScope(), oddExport())
	wantNames(t, got, "C B A Z")
	for _, w := range filesTold {
		checkFile(t, l, w.bytes+w.sum)
	}
	wantNames(t, filedInto(t, l, longScope(3000)), "C B A moduleName")
}

// badFiles are bytes that are no file, each with its code and place.
func badFiles() []struct {
	b        string
	code, at int
} {
	file := fileByHand(ringScope())
	hidden := ringScope()
	hidden.Types[3].Fields[1].Name = "next"
	return []struct {
		b        string
		code, at int
	}{
		{"", 2, 0}, {"OS2" + file[3:], 2, 0}, {"OS1", 3, 3}, {file[:9], 3, 9}, {file[:len(file)-1], 4, len(file) - 2}, {file + "\x00", 4, len(file) - 2},
		{file[:len(file)-1] + "\x00", 5, len(file) - 2}, {fileByHand(hidden), 6, 0}, {fileByHand(fullScope()), 6, 0},
		{strings.Repeat("x", 3001), 1, 0}, {fileByHand(longScope(3001)), 1, 0}, {"MODULE A; END A.", 2, 0},
	}
}

func TestBytesThatAreNoFiles(t *testing.T) {
	for _, l := range [][]impl.Module{nil, storeOf(t, textOfC, textOfB, textOfA), numberedStore(7), numberedStore(8)} {
		for _, w := range badFiles() {
			wantNotFiled(t, l, w.b, w.code, w.at)
		}
		checkStore(t, l)
	}
}

// badTexts are texts that no store takes, with a ^ at the place of each.
var badTexts = []struct {
	code int
	text string
}{
	{11, "^" + strings.Repeat(" ", 1201)}, {12, "MODULE D0; ^(* END D0."}, {13, "MODULE D0; ^abcdefghijk"}, {14, "MODULE D0; ^? END D0."},
	{15, "^" + strings.Repeat(";", 301)},
	{20, "MODULE D0; END D0^"}, {20, "^"}, {21, "MODULE D0; END ^D1."}, {30, "MODULE D0; VAR x: ^y; END D0."}, {30, "MODULE New; USE ^D0.k0; END New."},
	{31, "MODULE New; VAR ^INT: INT; END New."}, {32, "MODULE D0; CONST k^- = 1; END D0."}, {33, "MODULE D0; CONST k = ^1 DIV 0; END D0."},
	{34, "MODULE D0; VAR v: RECORD a: INT; b: INT; c: INT; d: INT; e: INT; f: INT; ^g: INT END; END D0."},
	{35, "MODULE D0; IMPORT ^D0; END D0."}, {35, "MODULE New; IMPORT ^D8; END New."}, {35, "MODULE New; IMPORT ^New; END New."},
}

func TestTextsThatAreNotPut(t *testing.T) {
	for _, l := range [][]impl.Module{nil, numberedStore(1), numberedStore(7), numberedStore(8)} {
		for _, w := range badTexts {
			ahead, rest, _ := strings.Cut(w.text, "^")
			wantNotPut(t, l, ahead+rest, w.code, len(ahead))
		}
		checkStore(t, l)
	}
	var l []impl.Module
	for _, s := range shown(t) {
		l = append(l, impl.Module{Scope: s})
	}
	for _, w := range faults {
		ahead, rest, _ := strings.Cut("MODULE A; IMPORT B, C; "+w.decls+" END A.", "^")
		wantNotPut(t, l, ahead+rest, w.code, len(ahead))
	}
	// What a type of this name is by another module, and is not here.
	l = storeOf(t, "MODULE A; TYPE R* = RECORD END; END A.", "MODULE B; IMPORT A; TYPE S* = RECORD (A.R) END; END B.")
	wantNotPut(t, l, "MODULE A; IMPORT B; VAR x: B.S; END A.", 36, 27)
}

func TestFullStores(t *testing.T) {
	l := numberedStore(8)
	wantGoodStore(t, l, true)
	wantGoodStore(t, numberedStore(9), false)
	names := storeNames(l)
	for _, w := range []struct{ name, decls string }{{"New", ""}, {"D8", "IMPORT D1; CONST x* = D1.k0;"}, {"d0", "VAR x*: INT; USE x;"}, {"D", "(* *)"}} {
		text := "MODULE " + w.name + "; " + w.decls + " END " + w.name + "."
		wantNotPut(t, l, text, 40, 0)
		wantNames(t, putInto(t, l[1:], text), strings.TrimPrefix(names, "D0 ")+" "+w.name)
	}
	for _, s := range []impl.Scope{ringScope(), exportOfFull(), oddExport(), longScope(3000)} {
		wantNotFiled(t, l, fileByHand(s), 40, 0)
		wantNames(t, filedInto(t, l[:7], s), strings.TrimSuffix(names, "D7")+s.Name)
	}
	for n := range l {
		name := "D" + strconv.Itoa(n)
		from := "D" + strconv.Itoa((n+3)%8)
		got := putInto(t, l, fmt.Sprintf("MODULE %s; IMPORT %s; CONST x* = %s.k0; END %s.", name, from, from, name))
		wantNames(t, got, names)
		if wordsOf(got[n].Seen) != from+".k0" {
			t.Error(got[n].Seen)
		}
		s := oddExport()
		s.Name = name
		got = filedInto(t, got, s)
		wantNames(t, got, names)
		// With one away there is room for one, and for no more.
		got = dropped(t, got, name)
		got = putInto(t, got, "MODULE New; END New.")
		wantNames(t, got, strings.Replace(names+" New", name+" ", "", 1))
		wantNotPut(t, got, "MODULE "+name+"; END "+name+".", 40, 0)
		wantNotFiled(t, got, fileByHand(s), 40, 0)
	}
}

// TestModulesInRings: no module imports itself, but it may import one that imports it.
func TestModulesInRings(t *testing.T) {
	l := storeOf(t, "MODULE B; CONST k* = 4; END B.", "MODULE A; IMPORT B; CONST n* = B.k; END A.")
	wantNotPut(t, l, "MODULE A; IMPORT A; END A.", 35, 17)
	wantNotPut(t, l, "MODULE B; IMPORT A, B; END B.", 35, 20)
	ring := putInto(t, l, "MODULE B; IMPORT A; CONST k* = A.n; END B.")
	wantNames(t, ring, "B A")
	wantStale(t, ring)
	if wordsOf(ring[0].Seen) != "A.n" || wordsOf(ring[1].Seen) != "B.k" {
		t.Error(ring)
	}
	on := putInto(t, ring, "MODULE B; IMPORT A; CONST k* = A.n + 1; END B.")
	wantStale(t, on, "A")
	wantWhy(t, on, "A", "B.k")
	on = putInto(t, on, "MODULE A; IMPORT B; CONST n* = B.k; END A.")
	wantStale(t, on, "B")
	wantWhy(t, on, "B", "A.n")
	wantStale(t, dropped(t, on, "A"), "B")
	wantStale(t, dropped(t, on, "B"), "A")
	// One that saw what it has itself is held against that.
	own := []impl.Module{{Scope: l[0].Scope, Seen: seenOf("B.k", l[1].Seen[0].Sum)}}
	wantStale(t, own)
	own[0].Seen[0].Sum++
	wantStale(t, own, "B")
	wantWhy(t, own, "B", "B.k")
	wantStale(t, putInto(t, own, "MODULE B; CONST k* = 5; END B."))
}

// storeChanges are changes to a store of C, B and A, each in one part alone, and whether it is good then.
var storeChanges = []struct {
	change func(l []impl.Module) []impl.Module
	good   bool
}{
	{func(l []impl.Module) []impl.Module { l[0], l[1] = l[1], l[0]; return l }, true},
	{func(l []impl.Module) []impl.Module { l[1], l[2] = l[2], l[1]; return l }, true},
	{func(l []impl.Module) []impl.Module { return l[:2] }, true},
	{func(l []impl.Module) []impl.Module { return l[1:] }, true},
	{func(l []impl.Module) []impl.Module { return append(l, impl.Module{Scope: ringScope()}) }, false},
	{func(l []impl.Module) []impl.Module { return append(l, l[1]) }, false},
	{func(l []impl.Module) []impl.Module { return append(l, impl.Module{Scope: oddExport()}) }, true},
	{func(l []impl.Module) []impl.Module { return append(l, impl.Module{}) }, false},
	{func(l []impl.Module) []impl.Module { l[0].Scope.Name = "D"; return l }, true},
	{func(l []impl.Module) []impl.Module { l[0].Scope.Name = "A"; return l }, false},
	{func(l []impl.Module) []impl.Module { l[2].Scope.Name = "B"; return l }, false},
	{func(l []impl.Module) []impl.Module { l[2].Scope.Name = "a b"; return l }, false},
	{func(l []impl.Module) []impl.Module { l[2].Scope = impl.Scope{}; return l }, false},
	{func(l []impl.Module) []impl.Module { l[1].Scope.Imports = []string{"C"}; return l }, false},
	{func(l []impl.Module) []impl.Module { l[0].Scope.Objects[0].Value++; return l }, true},
	{func(l []impl.Module) []impl.Module { l[2].Scope.Objects[0].Value++; return l }, true},
	{func(l []impl.Module) []impl.Module { l[1].Scope.Objects[0].Mark = 0; return l }, false},
	{func(l []impl.Module) []impl.Module { l[1].Scope.Objects[3].Mark = 2; return l }, true},
	{func(l []impl.Module) []impl.Module { l[1].Scope.Objects[0].Name = "k2"; return l }, true},
	{func(l []impl.Module) []impl.Module { l[1].Scope.Objects = l[1].Scope.Objects[:1]; return l }, false},
	{func(l []impl.Module) []impl.Module { l[1].Scope.Types[3].Fields[0].Mark = 2; return l }, true},
	{func(l []impl.Module) []impl.Module { l[0].Scope.Types[3].Fields[2].Name = "c"; return l }, false},
	{func(l []impl.Module) []impl.Module {
		l[0].Scope.Types = append(l[0].Scope.Types, recordOf(-1))
		return l
	}, false},
	{func(l []impl.Module) []impl.Module { l[0].Scope.Types[4].Long = 1001; return l }, false},
	{func(l []impl.Module) []impl.Module { l[1].Scope.Uses = usesOf("C.n"); return l }, false},
	{func(l []impl.Module) []impl.Module {
		l[1].Scope.Imports, l[1].Scope.Uses = []string{"C"}, usesOf("C.n")
		return l
	}, false},
	{func(l []impl.Module) []impl.Module { l[2].Seen = nil; return l }, true},
	{func(l []impl.Module) []impl.Module { l[2].Seen = l[2].Seen[:8]; return l }, true},
	{func(l []impl.Module) []impl.Module { l[2].Seen = l[2].Seen[1:]; return l }, true},
	{func(l []impl.Module) []impl.Module { l[0].Seen = seenOf("Zz.x", 0); return l }, true},
	{func(l []impl.Module) []impl.Module {
		l[2].Seen[0], l[2].Seen[1] = l[2].Seen[1], l[2].Seen[0]
		return l
	}, true},
	{func(l []impl.Module) []impl.Module { l[2].Seen[3].Sum++; return l }, true},
	{func(l []impl.Module) []impl.Module { l[1].Seen[0].Sum = 0; return l }, true},
	{func(l []impl.Module) []impl.Module { l[1].Seen[0].Sum = -1; return l }, false},
	{func(l []impl.Module) []impl.Module { l[2].Seen[8].Sum = -1 << 63; return l }, false},
	{func(l []impl.Module) []impl.Module { l[2].Seen[8].Mod = "D"; return l }, true},
	{func(l []impl.Module) []impl.Module { l[2].Seen[8].Mod = "D1 "; return l }, false},
	{func(l []impl.Module) []impl.Module { l[2].Seen[0].Name = "kk"; return l }, true},
	{func(l []impl.Module) []impl.Module { l[2].Seen[0].Name = ""; return l }, false},
	{func(l []impl.Module) []impl.Module { l[2].Seen[8] = l[2].Seen[0]; return l }, false},
	{func(l []impl.Module) []impl.Module { l[2].Seen[8].Name = "k"; return l }, false},
	{func(l []impl.Module) []impl.Module { l[0].Seen = mostSeen(40); return l }, true},
	{func(l []impl.Module) []impl.Module { l[0].Seen = mostSeen(41); return l }, false},
}

func mostSeen(many int) []impl.Seen {
	var l []impl.Seen
	for n := range many {
		l = append(l, impl.Seen{Mod: "M", Name: "n" + strconv.Itoa(n), Sum: n})
	}
	return l
}

// TestStoresInOnePartOtherwise asks whether stores are the same, and whether they are good.
func TestStoresInOnePartOtherwise(t *testing.T) {
	l := storeOf(t, textOfC, textOfB, textOfA)
	wantSameStore(t, l, copyOfStore(l), true)
	var all [][]impl.Module
	for i, w := range storeChanges {
		other := w.change(copyOfStore(l))
		if impl.GoodStore(other) != w.good {
			t.Errorf("change %d: good is %v", i, !w.good)
		}
		wantGoodStore(t, other, w.good)
		wantSameStore(t, l, other, false)
		for _, one := range all {
			wantSameStore(t, one, other, false)
		}
		all = append(all, other)
		wantSameStore(t, other, copyOfStore(other), true)
	}
}

func TestStoresThatAreNotGood(t *testing.T) {
	l := storeOf(t, textOfC, textOfB, textOfA)
	for i, bad := range append(badScopes(), fullScope(), scopeIn(t, textOfA, scopesIn(l)), scopeIn(t, textOfC, nil)) {
		other := copyOfStore(l)
		other[i%3].Scope = bad
		wantGoodStore(t, other, false)
		if bad.Name = "Zz"; i%5 == 0 && !impl.GoodScope(bad) {
			wantGoodStore(t, append(copyOfStore(l), impl.Module{Scope: bad}), false)
		}
	}
	for _, many := range []int{9, 10, 16, 1000} {
		wantGoodStore(t, numberedStore(many), false)
	}
	wantGoodStore(t, make([]impl.Module, 100000), false)
	wantGoodStore(t, slices.Repeat(l, 2), false)
	for n := range 8 {
		for m := range n {
			other := numberedStore(8)
			other[n].Scope.Name = other[m].Scope.Name
			wantGoodStore(t, other, false)
		}
		for _, seen := range [][]impl.Seen{mostSeen(41), seenOf("B.k B.k", 1, 2), seenOf("B.k", -1), {{}}, {{Mod: "B"}}, {{Mod: "B", Name: "a b"}}} {
			other := numberedStore(8)
			other[n].Seen = seen
			wantGoodStore(t, other, false)
		}
	}
}

// TestSameStoreOfAnyTwo asks of modules that are no store.
func TestSameStoreOfAnyTwo(t *testing.T) {
	odd := func() []impl.Module {
		l := []impl.Module{{}, {Scope: impl.Scope{Name: "not a name", Imports: []string{""}}, Seen: []impl.Seen{{}, {Mod: "\xff", Name: "-", Sum: -9}, {}}}, {}}
		return append(l, make([]impl.Module, 20)...)
	}
	wantSameStore(t, odd(), odd(), true)
	for i, change := range []func(l []impl.Module) []impl.Module{
		func(l []impl.Module) []impl.Module { return l[:22] },
		func(l []impl.Module) []impl.Module { return append(l, impl.Module{}) },
		func(l []impl.Module) []impl.Module { return nil },
		func(l []impl.Module) []impl.Module { l[1], l[2] = l[2], l[1]; return l },
		func(l []impl.Module) []impl.Module { l[22].Scope.Name = "x"; return l },
		func(l []impl.Module) []impl.Module { l[22].Seen = make([]impl.Seen, 1); return l },
		func(l []impl.Module) []impl.Module { l[1].Scope.Imports = nil; return l },
		func(l []impl.Module) []impl.Module { l[1].Seen[1].Mod = "\xfe"; return l },
		func(l []impl.Module) []impl.Module { l[1].Seen[1].Name = ""; return l },
		func(l []impl.Module) []impl.Module { l[1].Seen[1].Sum = 9; return l },
		func(l []impl.Module) []impl.Module { l[1].Seen = l[1].Seen[:2]; return l },
		func(l []impl.Module) []impl.Module { l[1].Seen = nil; return l },
	} {
		other := change(odd())
		if impl.SameStore(odd(), other) || impl.SameStore(other, odd()) || !impl.SameStore(other, copyOfStore(other)) {
			t.Errorf("change %d is not seen", i)
		}
	}
	empty := []impl.Module{{Scope: impl.Scope{Imports: []string{}, Types: []impl.Type{}, Objects: []impl.Object{}, Uses: []impl.Use{}}, Seen: []impl.Seen{}}}
	wantSameStore(t, empty, make([]impl.Module, 1), true)
	filled := numberedStore(3)
	for i := range filled {
		filled[i].Seen, filled[i].Scope.Imports, filled[i].Scope.Uses = []impl.Seen{}, []string{}, []impl.Use{}
	}
	wantSameStore(t, filled, numberedStore(3), true)
	wantGoodStore(t, filled, true)
}

// storesOfAllSorts are stores, and modules that are none.
func storesOfAllSorts(t *testing.T) [][]impl.Module {
	l := storeOf(t, textOfC, textOfB, textOfA)
	all := [][]impl.Module{nil, {}, l, numberedStore(8), numberedStore(9), {{}}, putInto(t, l, changedText(t, textOfC, [2]string{"n* = 3", "n* = 4"}))}
	for _, w := range storeChanges {
		all = append(all, w.change(copyOfStore(l)))
	}
	return all
}

func TestStoresAreNotWrittenInto(t *testing.T) {
	for i, l := range storesOfAllSorts(t) {
		before := copyOfStore(l)
		for _, text := range append([]string{"MODULE A; IMPORT B, C; VAR x*: B.R; USE C.v; END A.", "MODULE New; IMPORT B; TYPE R* = B.R; END New.", textOfA, textOfB, textOfC}, takingTexts...) {
			callStore(l, text, fileByHand(oddExport()), "B")
			callStore(l, text, fileByHand(exportOfFull()), "A")
		}
		callStore(l, "", "", "")
		if !reflect.DeepEqual(l, before) {
			t.Fatalf("store %d is written into", i)
		}
	}
}

// storeApart tells a store the lists of which lie in memory that goes on behind them, and a function that
// tells whether that memory is as it was.
func storeApart(l []impl.Module) ([]impl.Module, func() bool) {
	var kept []func() bool
	apart := slices.Clone(l)
	for i, one := range l {
		scope, same := laidApart(one.Scope)
		seen, room := behind(one.Seen, impl.Seen{Mod: "B", Name: "k"}, impl.Seen{Sum: -1})
		before := copyOfSeen(room)
		apart[i] = impl.Module{Scope: scope, Seen: seen}
		kept = append(kept, same, func() bool { return slices.Equal(room, before) })
	}
	apart, room := behind(apart, impl.Module{Scope: impl.Scope{Name: "Far"}}, impl.Module{Scope: oddExport()})
	before := copyOfStore(room)
	kept = append(kept, func() bool { return sameStoreByHand(room, before) })
	return apart, func() bool {
		return !slices.ContainsFunc(kept, func(same func() bool) bool { return !same() })
	}
}

func TestWhatLiesBehindStores(t *testing.T) {
	plain := storeOf(t, textOfC, textOfB, textOfA)
	other := changedText(t, textOfC, [2]string{"n* = 3", "n* = 4"})
	for _, l := range [][]impl.Module{plain, putInto(t, plain, other), plain[:1], nil} {
		apart, same := storeApart(l)
		checkStore(t, apart)
		wantNoneCalled(t, apart, "Far", "Z")
		wantSameStore(t, apart, l, true)
		for _, text := range append([]string{textOfA, textOfB, textOfC, other, "MODULE Z; END Z.", "MODULE A; IMPORT Far; END A."}, takingTexts...) {
			checkPut(t, apart, text)
		}
		for _, s := range []impl.Scope{oddExport(), exportOfFull(), ringScope()} {
			checkFile(t, apart, fileByHand(s))
		}
		for _, name := range []string{"A", "B", "C", "Far"} {
			callStore(apart, textOfB, fileByHand(ringScope()), name)
		}
		if !same() {
			t.Error("what lies behind a store, or a list of it, is written into")
		}
	}
}

// withOwnStore tells a store with each text in memory of its own.
func withOwnStore(l []impl.Module) []impl.Module {
	l = copyOfStore(l)
	for i, one := range l {
		l[i].Scope = withOwnTexts(one.Scope)
		for k, seen := range one.Seen {
			l[i].Seen[k].Mod, l[i].Seen[k].Name = strings.Clone(seen.Mod), strings.Clone(seen.Name)
		}
	}
	return l
}

// storeSpans tells the memory of all lists of a store, and storeTexts all its texts.
func storeSpans(l []impl.Module) []span {
	spans := []span{spanOf(l)}
	for _, one := range l {
		spans = append(append(spans, spanOf(one.Seen)), spansOf(one.Scope)...)
	}
	return slices.DeleteFunc(spans, func(p span) bool { return p.from == p.to })
}

func storeTexts(l []impl.Module) []string {
	var texts []string
	for _, one := range l {
		texts = append(texts, textsOf(one.Scope)...)
		for _, seen := range one.Seen {
			texts = append(texts, seen.Mod, seen.Name)
		}
	}
	return texts
}

// wantNewStore asks that no list of an answer lies over another one, or over one that is given, and
// that no text is a part of one that is given.
func wantNewStore(t *testing.T, got []impl.Module, spans []span, given []string) {
	t.Helper()
	own := storeSpans(got)
	for i, one := range own {
		for _, other := range slices.Concat(own[:i], spans) {
			if one.from < other.to && other.from < one.to {
				t.Fatalf("a list of %v shares memory", got)
			}
		}
	}
	apartTexts(t, given, storeTexts(got)...)
}

// clearStore writes over all memory of an answer.
func clearStore(l []impl.Module) {
	for _, one := range l {
		for _, of := range one.Scope.Types {
			clear(of.Fields[:cap(of.Fields)])
		}
		for _, o := range one.Scope.Objects {
			clear(o.Params[:cap(o.Params)])
		}
		clear(one.Scope.Types[:cap(one.Scope.Types)])
		clear(one.Scope.Objects[:cap(one.Scope.Objects)])
		clear(one.Seen[:cap(one.Seen)])
	}
	clear(l[:cap(l)])
}

// storesFrom tells all stores that are told of a store.
func storesFrom(l []impl.Module, text, b string) [][]impl.Module {
	put, _, _, _ := impl.PutModule(l, text)
	file, _, _, _ := impl.PutFile(l, b)
	all := [][]impl.Module{put, file}
	for _, one := range l {
		without, _ := impl.DropModule(l, one.Scope.Name)
		all = append(all, without)
	}
	return all
}

func TestStoreAnswersAreNewMemory(t *testing.T) {
	l := withOwnStore(storeOf(t, textOfC, textOfB, textOfA))
	kept := copyOfStore(l)
	for _, text := range []string{textOfB, changedText(t, changedText(t, textOfA, [2]string{"MODULE A", "MODULE Dd"}), [2]string{"END A", "END Dd"})} {
		text, b := strings.Clone(text), fileByHand(oddExport())
		given := append(storeTexts(l), text, b)
		first, second := storesFrom(l, text, b), storesFrom(l, text, b)
		if len(first[0]) < 3 || len(first[1]) != 4 || len(first[4]) != 2 {
			t.Fatal(first)
		}
		want := [][]impl.Module{}
		for i, got := range first {
			wantNewStore(t, got, append(storeSpans(l), storeSpans(second[i])...), given)
			want = append(want, copyOfStore(got))
		}
		for _, got := range first {
			clearStore(got)
		}
		if !sameStoreByHand(l, kept) || !slices.EqualFunc(second, want, sameStoreByHand) || !slices.EqualFunc(storesFrom(l, text, b), want, sameStoreByHand) {
			t.Error("an answer is kept")
		}
	}
}

// TestModulesThatShareMemory has a store whose modules share their lists: those of an answer do not.
func TestModulesThatShareMemory(t *testing.T) {
	s := withOwnTexts(exportOfFull())
	seen := seenOf("A.R B.least Zz.x", 1, 2)
	var l []impl.Module
	for _, name := range []string{"A", "B", "C", "D"} {
		s.Name = name
		l = append(l, impl.Module{Scope: s, Seen: seen})
	}
	checkStore(t, l)
	for _, got := range storesFrom(l, "MODULE B; IMPORT A; VAR x*: A.R; END B.", fileByHand(oddExport())) {
		wantNewStore(t, got, storeSpans(l), nil)
	}
	mods, _ := impl.ModsOf(l)
	var other []impl.Module
	for _, one := range mods {
		other = append(other, impl.Module{Scope: one})
	}
	wantNewStore(t, other, storeSpans(l), storeTexts(l))
	if !slices.EqualFunc(mods, scopesIn(l), sameByHand) {
		t.Error(mods)
	}
}

func TestListsToldOfStoresAreNewMemory(t *testing.T) {
	l := withOwnStore(putInto(t, storeOf(t, textOfC, textOfB, textOfA), "MODULE C; END C."))
	given := storeTexts(l)
	mods, _ := impl.ModsOf(l)
	modsAgain, _ := impl.ModsOf(l)
	for i, one := range mods {
		wantNewMemory(t, one, append(storeSpans(l), spansOf(modsAgain[i])...), given)
	}
	apart(t, mods, modsAgain)
	stale, _ := impl.StaleIn(l)
	staleAgain, _ := impl.StaleIn(l)
	apart(t, stale, staleAgain)
	apartTexts(t, given, stale...)
	name := strings.Clone("A")
	why, _ := impl.WhyStale(l, name)
	whyAgain, _ := impl.WhyStale(l, name)
	apart(t, why, whyAgain)
	for _, use := range why {
		apartTexts(t, append(given, name), use.Mod, use.Name)
	}
	kept := copyOfStore(l)
	clear(mods[:cap(mods)])
	clear(stale[:cap(stale)])
	clear(why[:cap(why)])
	if !sameStoreByHand(l, kept) || !slices.EqualFunc(modsAgain, scopesIn(l), sameByHand) || !slices.Equal(staleAgain, []string{"B", "A"}) || !slices.Equal(whyAgain, usesOf("C.n C.U C.v")) {
		t.Error("an answer is kept")
	}
	checkStore(t, l)
}

// TestNothingIsKeptOfStores changes a store between calls, and asks from many sides at once.
func TestNothingIsKeptOfStores(t *testing.T) {
	l := storeOf(t, textOfC, textOfB, textOfA)
	l[0].Scope.Objects[0].Value++
	wantStale(t, l, "A")
	l[0].Scope.Objects[0].Value--
	wantStale(t, l)
	_, code := checkPut(t, l, "MODULE")
	if code != 20 {
		t.Error(code)
	}
	wantStale(t, l[1:], "B", "A")
	wantStale(t, l)
	for i := range 8 {
		t.Run("side", func(t *testing.T) {
			t.Parallel()
			for k := range 10 {
				switch (i + k) % 3 {
				case 0:
					wantStale(t, l)
				case 1:
					wantStale(t, l[1:], "B", "A")
				default:
					wantNames(t, putInto(t, l[:1], textOfB), "C B")
				}
			}
		})
	}
}
