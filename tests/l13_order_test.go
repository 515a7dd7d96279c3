package tests

import (
	"reflect"
	"runtime"
	"slices"
	"strconv"
	"strings"
	"testing"
	"time"

	"loop.example/g00837/impl"
)

// sourcesOf tells plain sources that are written down as words: `A:B,C` imports B and C.
func sourcesOf(words string) []impl.Source {
	var l []impl.Source
	for _, word := range strings.Fields(words) {
		name, imports, _ := strings.Cut(word, ":")
		l = append(l, plainSource(name, strings.FieldsFunc(imports, func(c rune) bool { return c == ',' })...))
	}
	return l
}

func numbersIn(t *testing.T, words string) []int {
	t.Helper()
	var numbers []int
	for _, word := range strings.Fields(words) {
		n, err := strconv.Atoi(word)
		if err != nil {
			t.Fatal(err)
		}
		numbers = append(numbers, n)
	}
	return numbers
}

// wantNeeds asks for what each source needs, with `|` between.
func wantNeeds(t *testing.T, l []impl.Source, words string) {
	t.Helper()
	var want [][]int
	for _, part := range strings.Split(words, "|") {
		want = append(want, numbersIn(t, part))
	}
	if got, ok := impl.NeedsIn(l); !slices.EqualFunc(got, want, slices.Equal) || !ok {
		t.Errorf("NeedsIn(%v) = %v, %v, want %v", l, got, ok, want)
	}
}

// wantOrder asks for the order of sources, and that there is no ring.
func wantOrder(t *testing.T, l []impl.Source, words string) {
	t.Helper()
	if got, ok := impl.OrderOf(l); !slices.Equal(got, numbersIn(t, words)) || !ok {
		t.Errorf("OrderOf(%v) = %v, %v, want %s", l, got, ok, words)
	}
	if got, ok := impl.RingOf(l); len(got) != 0 || ok {
		t.Errorf("RingOf(%v) = %v, %v", l, got, ok)
	}
	if !checkSources(t, l) {
		t.Errorf("%v have no order by form", l)
	}
}

// wantRing asks for the ring of sources, and that there is no order.
func wantRing(t *testing.T, l []impl.Source, words string) {
	t.Helper()
	if got, ok := impl.RingOf(l); !slices.Equal(got, numbersIn(t, words)) || !ok {
		t.Errorf("RingOf(%v) = %v, %v, want %s", l, got, ok, words)
	}
	if got, ok := impl.OrderOf(l); len(got) != 0 || ok {
		t.Errorf("OrderOf(%v) = %v, %v", l, got, ok)
	}
	if checkSources(t, l) {
		t.Errorf("%v have an order by form", l)
	}
	wantNotBuilt(t, l)
}

// wantHanging asks for what hangs on each source, with `|` between.
func wantHanging(t *testing.T, l []impl.Source, words string) {
	t.Helper()
	parts := strings.Split(words, "|")
	if len(parts) != len(l) {
		t.Fatalf("%q is not for %v", words, l)
	}
	for n, part := range parts {
		if got, ok := impl.HangOn(l, n); !slices.Equal(got, numbersIn(t, part)) || !ok {
			t.Errorf("HangOn(%v, %d) = %v, %v, want %s", l, n, got, ok, part)
		}
	}
	wantNoneHang(t, l, append([]int{-2, -1, len(l), len(l) + 1, 8, 9}, farNumbers...)...)
}

func wantGoodSources(t *testing.T, l []impl.Source, good bool) {
	t.Helper()
	if impl.GoodSources(l) != good {
		t.Errorf("GoodSources(%v) is not %v", l, good)
	}
	if checkSources(t, l); good != goodSourcesByForm(l) {
		t.Errorf("by form %v are not %v", l, good)
	}
}

// wantBuilt asks for the codes of all sources, and for the names of the modules that are there then.
func wantBuilt(t *testing.T, l []impl.Source, codes, names string) []impl.Module {
	t.Helper()
	store, got, ok := checkBuilt(t, l)
	if !slices.Equal(got, numbersIn(t, codes)) || !ok {
		t.Errorf("BuildAll(%v) tells %v, %v, want %s", l, got, ok, codes)
	}
	wantNames(t, store, names)
	return store
}

// wantAnew asks for the codes of all sources where the one of a number is put into a store.
func wantAnew(t *testing.T, old []impl.Module, l []impl.Source, n int, codes string) []impl.Module {
	t.Helper()
	store, got, ok := checkAnew(t, old, l, n)
	if !slices.Equal(got, numbersIn(t, codes)) || !ok {
		t.Errorf("BuildAnew(%v, %v, %d) tells %v, %v, want %s", old, l, n, got, ok, codes)
	}
	return store
}

// withText tells sources of which the one of a number has another text.
func withText(l []impl.Source, n int, text string) []impl.Source {
	l = slices.Clone(l)
	l[n].Text = text
	return l
}

// versionsABC are sources of the modules of most tests: A takes from B and C, and B from C.
func versionsABC() []impl.Source {
	return []impl.Source{{Name: "A", Text: textOfA}, {Name: "B", Text: textOfB}, {Name: "C", Text: textOfC}}
}

func TestOrderConstantIsAsTold(t *testing.T) {
	if impl.MaxSources != 8 {
		t.Error(impl.MaxSources)
	}
}

func TestNoSources(t *testing.T) {
	for _, l := range [][]impl.Source{nil, {}, versionsABC()[:0]} {
		wantGoodSources(t, l, true)
		if needs, ok := impl.NeedsIn(l); len(needs) != 0 || !ok {
			t.Error(needs, ok)
		}
		wantOrder(t, l, "")
		wantNoneHang(t, l, append([]int{-1, 0, 1}, farNumbers...)...)
		if store := wantBuilt(t, l, "", ""); len(store) != 0 {
			t.Error(store)
		}
		for _, old := range [][]impl.Module{nil, numberedStore(3)} {
			for _, n := range append([]int{-1, 0, 1}, farNumbers...) {
				wantNotAnew(t, old, l, n)
			}
		}
	}
}

func TestSourcesWithAnOrder(t *testing.T) {
	for _, w := range [][4]string{
		{"A", "", "0", ""},
		{"Z:A", "", "0", ""},
		// Without imports, by number and not by name.
		{"A B", "|", "0 1", "|"}, {"C A B", "||", "0 1 2", "||"}, {"H G F E D C B A", "|||||||", "0 1 2 3 4 5 6 7", "|||||||"},
		// A chain in order, the other way round, and mixed.
		{"A B:A", "|0", "0 1", "1|"}, {"B:A A", "1|", "1 0", "|0"},
		{"A B:A C:B D:C", "|0|1|2", "0 1 2 3", "1 2 3|2 3|3|"}, {"D:C C:B B:A A", "1|2|3|", "3 2 1 0", "|0|0 1|0 1 2"},
		{"C:B A D:C B:A", "3||0|1", "1 3 0 2", "2|0 2 3||0 2"}, {"B:A D:C A C:B", "2|3||0", "2 0 3 1", "1 3||0 1 3|1"},
		// One that two need, and one that needs two.
		{"A B:A C:A", "|0|0", "0 1 2", "1 2||"}, {"B:A C:A A", "2|2|", "2 0 1", "||0 1"}, {"B:A A C:A", "1||1", "1 0 2", "|0 2|"},
		{"A B C:A,B", "||0 1", "0 1 2", "2|2|"}, {"C:B,A B A", "1 2||", "1 2 0", "|0|0"}, {"B C:A,B A", "|0 2|", "0 2 1", "1||1"},
		{"A:B,C B:D C:D D", "1 2|3|3|", "3 1 2 0", "|0|0|0 1 2"}, {"D A:B,C C:D B:D", "|2 3|0|0", "0 2 3 1", "1 2 3||1|1"},
		// One that is needed at once and behind another one.
		{"A:B,C B:C C", "1 2|2|", "2 1 0", "|0|0 1"}, {"C B:C A:C,B", "|0|0 1", "0 1 2", "1 2|2|"},
		// Where several can come next the least number comes, also one that could come long ago.
		{"A:D B C D", "3|||", "1 2 3 0", "|||0"}, {"A:C B C D", "2|||", "1 2 0 3", "||0|"}, {"A:C B:C C D", "2|2||", "2 0 1 3", "||0 1|"},
		{"A:B B C:D D", "1||3|", "1 0 3 2", "|0||2"}, {"A:D B:A C D", "3|0||", "2 3 0 1", "1|||0 1"}, {"A:H B:G C:F D:E E F G H", "7|6|5|4||||", "4 3 5 2 6 1 7 0", "||||3|2|1|0"},
		{"A B:C C D:B E:A", "|2||1|0", "0 2 1 3 4", "4|3|1 3||"}, {"A:E B:E C:D D E:D", "4|4|3||3", "3 2 4 0 1", "|||0 1 2 4|0 1"},
		// One twice and in another order, and such as are not there.
		{"A:B,B B", "1|", "1 0", "|0"}, {"A:C,B,C,B,B B C", "1 2||", "1 2 0", "|0|0"}, {"A:Z,B,Y B:X", "1|", "1 0", "|0"}, {"A:b,AA,a,AB B:a", "|", "0 1", "|"},
		{"A:Z,Z B:Z C:Z", "||", "0 1 2", "||"}, {"a:A A b:B,a B:A", "1||0 3|1", "1 0 3 2", "2|0 2 3||2"},
	} {
		l := sourcesOf(w[0])
		wantGoodSources(t, l, true)
		wantNeeds(t, l, w[1])
		wantOrder(t, l, w[2])
		wantHanging(t, l, w[3])
		checkBuilt(t, l)
	}
}

func TestSourcesWithRings(t *testing.T) {
	for _, w := range [][4]string{
		// One that needs itself, alone and among others.
		{"A:A", "0", "0", "0"}, {"A:A,A", "0", "0", "0"}, {"A B:B", "|1", "1", "|1"}, {"A:B B:B", "1|1", "1", "|0 1"}, {"A B:A,B C:B", "|0 1|1", "1", "1 2|1 2|"}, {"A:A B:B C:C", "0|1|2", "0", "0|1|2"},
		// Two that need one another, in whatever place, and with others.
		{"A:B B:A", "1|0", "0 1", "0 1|0 1"}, {"B:A A:B", "1|0", "0 1", "0 1|0 1"}, {"A B:C C:B", "|2|1", "1 2", "|1 2|1 2"}, {"C:B A B:C", "2||0", "0 2", "0 2||0 2"},
		// A ring behind others that are in none, and others behind a ring.
		{"A:B B:C C:D D:C", "1|2|3|2", "2 3", "|0|0 1 2 3|0 1 2 3"}, {"A:C B:C C:D D:E E:D", "2|2|3|4|3", "3 4", "||0 1|0 1 2 3 4|0 1 2 3 4"},
		{"A:B B:A C:A D:C", "1|0|0|2", "0 1", "0 1 2 3|0 1 2 3|3|"}, {"A:B B:C,D C:B D E", "1|2 3|1||", "1 2", "|0 1 2|0 1 2|0 1 2|"},
		// Rings of three and more, both ways round, and one of all.
		{"A:B B:C C:A", "1|2|0", "0 1 2", "0 1 2|0 1 2|0 1 2"}, {"A:C B:A C:B", "2|0|1", "0 2 1", "0 1 2|0 1 2|0 1 2"}, {"A:C C:B D B:A", "1|3||0", "0 1 3", "0 1 3|0 1 3||0 1 3"},
		{"A:B B:C C:D D:E E:F F:G G:H H:A", "1|2|3|4|5|6|7|0", "0 1 2 3 4 5 6 7", strings.Repeat("0 1 2 3 4 5 6 7|", 7) + "0 1 2 3 4 5 6 7"},
		{"A:H B:A C:B D:C E:D F:E G:F H:G", "7|0|1|2|3|4|5|6", "0 7 6 5 4 3 2 1", strings.Repeat("0 1 2 3 4 5 6 7|", 7) + "0 1 2 3 4 5 6 7"},
		{"A:E B:G C:H D:B E:C F:A G:F H:D", "4|6|7|1|2|0|5|3", "0 4 2 7 3 1 6 5", strings.Repeat("0 1 2 3 4 5 6 7|", 7) + "0 1 2 3 4 5 6 7"},
		// Two rings apart: the one with the least number, be it the longer one or not.
		{"A:B B:A C:D D:C", "1|0|3|2", "0 1", "0 1|0 1|2 3|2 3"}, {"A B:E C:D D:C E:B", "|4|3|2|1", "1 4", "|1 4|2 3|2 3|1 4"}, {"A:B B:C C:A D:D", "1|2|0|3", "0 1 2", "0 1 2|0 1 2|0 1 2|3"},
		{"A B:C C:D D:B E:F F:E", "|2|3|1|5|4", "1 2 3", "|1 2 3|1 2 3|1 2 3|4 5|4 5"}, {"A:B B:B,C C:D D:C", "1|1 2|3|2", "1", "|0 1|0 1 2 3|0 1 2 3"},
		// Two rings that share some: by as few as can be, then the least.
		{"A:B,C B:A C:A", "1 2|0|0", "0 1", "0 1 2|0 1 2|0 1 2"}, {"A:B B:A,B", "1|0 1", "0 1", "0 1|0 1"}, {"A:A,B B:A", "0 1|0", "0", "0 1|0 1"}, {"A:B B:A,C C:B", "1|0 2|1", "0 1", "0 1 2|0 1 2|0 1 2"},
		{"A:B B:C C:A,B", "1|2|0 1", "0 1 2", "0 1 2|0 1 2|0 1 2"}, {"A:B B:C C:B,D D:A", "1|2|1 3|0", "0 1 2 3", "0 1 2 3|0 1 2 3|0 1 2 3|0 1 2 3"},
		// The least one that it needs does not come back.
		{"A:B,C B C:A", "1 2||0", "0 2", "0 2|0 2|0 2"}, {"A:B,C,D B:C C D:A", "1 2 3|2||0", "0 3", "0 3|0 3|0 1 3|0 3"}, {"A:C B D:A C:B,D", "3||0|1 2", "0 3 2", "0 2 3|0 2 3|0 2 3|0 2 3"},
		// It comes into a ring of its own, and not back.
		{"A:B,D B:C C:B D:A", "1 3|2|1|0", "0 3", "0 3|0 1 2 3|0 1 2 3|0 3"}, {"A:B,C B:B C:A", "1 2|1|0", "0 2", "0 2|0 1 2|0 2"},
		// Two come back by as few, at once and further on.
		{"A:B,C B:D C:D D:A", "1 2|3|3|0", "0 1 3", "0 1 2 3|0 1 2 3|0 1 2 3|0 1 2 3"}, {"A:C,D B:A C:B D:B", "2 3|0|1|1", "0 2 1", "0 1 2 3|0 1 2 3|0 1 2 3|0 1 2 3"},
		{"A:B B:D,C C:A D:A", "1|2 3|0|0", "0 1 2", "0 1 2 3|0 1 2 3|0 1 2 3|0 1 2 3"}, {"A:D B:A C:A D:C,B", "3|0|0|1 2", "0 3 1", "0 1 2 3|0 1 2 3|0 1 2 3|0 1 2 3"},
		// A greater one comes back by fewer, at once and further on.
		{"A:B,C B:D C:A D:A", "1 2|3|0|0", "0 2", "0 1 2 3|0 1 2 3|0 1 2 3|0 1 2 3"}, {"A:B,D B:C C:D D:A", "1 3|2|3|0", "0 3", "0 1 2 3|0 1 2 3|0 1 2 3|0 1 2 3"},
		{"A:B B:C,E C:D D:A E:A", "1|2 4|3|0|0", "0 1 4", "0 1 2 3 4|0 1 2 3 4|0 1 2 3 4|0 1 2 3 4|0 1 2 3 4"},
		{"A:B,C B:D C:E D:E E:A", "1 2|3|4|4|0", "0 2 4", "0 1 2 3 4|0 1 2 3 4|0 1 2 3 4|0 1 2 3 4|0 1 2 3 4"},
		// A shorter ring without the least number, or with a greater one, is not told.
		{"A:B B:C C:D,C D:A", "1|2|2 3|0", "0 1 2 3", "0 1 2 3|0 1 2 3|0 1 2 3|0 1 2 3"}, {"A B:D C:C D:E E:B", "|3|2|4|1", "1 3 4", "|1 3 4|2|1 3 4|1 3 4"},
		// All need all.
		{"A:B,C,D B:A,C,D C:A,B,D D:A,B,C", "1 2 3|0 2 3|0 1 3|0 1 2", "0 1", "0 1 2 3|0 1 2 3|0 1 2 3|0 1 2 3"},
	} {
		l := sourcesOf(w[0])
		wantGoodSources(t, l, true)
		wantNeeds(t, l, w[1])
		wantRing(t, l, w[2])
		wantHanging(t, l, w[3])
		for n := range l {
			wantNotAnew(t, nil, l, n)
			wantNotAnew(t, numberedStore(2), l, n)
		}
	}
}

// TestAllOfTheMostSources has MaxSources, each of which needs all that were ahead of it, and one more.
func TestAllOfTheMostSources(t *testing.T) {
	l := sourcesBy(8, func(n, m int) bool { return m > n })
	wantGoodSources(t, l, true)
	wantOrder(t, l, "7 6 5 4 3 2 1 0")
	wantHanging(t, l, "|0|0 1|0 1 2|0 1 2 3|0 1 2 3 4|0 1 2 3 4 5|0 1 2 3 4 5 6")
	// No module has more than four imports, and none is there that imports C.
	wantBuilt(t, l, "35 35 34 0 0 0 0 0", "H G F E D")
	few := sourcesBy(8, func(n, m int) bool { return m > n && m < n+3 })
	store := wantBuilt(t, few, "0 0 0 0 0 0 0 0", "H G F E D C B A")
	wantAnew(t, store, few, 7, "-1 -1 -1 -1 -1 -1 -1 0")
	for _, one := range []impl.Source{plainSource("I"), plainSource("I", "A"), plainSource("A"), {}} {
		for _, more := range [][]impl.Source{append(slices.Clone(l), one), append([]impl.Source{one}, few...)} {
			wantGoodSources(t, more, false)
			wantNotAnew(t, store, more, 7)
			wantNotAnew(t, store, more, 8)
		}
	}
	wantGoodSources(t, slices.Repeat(l, 2), false)
	wantGoodSources(t, make([]impl.Source, 9), false)
	var many []impl.Source
	for n := range 100000 {
		many = append(many, plainSource("S"+strconv.Itoa(n)))
	}
	if impl.GoodSources(many) {
		t.Error("very many sources are good")
	}
	wantNotAnew(t, nil, many, 0)
	wantNoneHang(t, many, 0, 99999)
}

func TestNamesOfSources(t *testing.T) {
	for _, name := range goodNames {
		wantGoodSources(t, []impl.Source{{Name: name, Text: "MODULE A; END A."}}, true)
		l := []impl.Source{plainSource("Aa", "Bb"), {Name: name, Text: "MODULE Cc;"}, plainSource("Bb")}
		wantGoodSources(t, l, true)
		wantOrder(t, l, "1 2 0")
		if !impl.IsWord(name) {
			l[0] = plainSource("Aa", name)
			wantNeeds(t, l, "1||")
			wantHanging(t, l, "|0|")
		}
	}
	for _, name := range badNames {
		wantGoodSources(t, []impl.Source{{Name: name, Text: "MODULE A; END A."}}, false)
		for n := range 3 {
			l := sourcesOf("A B:A C:B")
			l[n].Name = name
			wantGoodSources(t, l, false)
		}
	}
	for n := range 8 {
		for m := range n {
			l := sourcesOf("A B C D E F G H")
			l[n].Name = l[m].Name
			wantGoodSources(t, l, false)
			l[n].Name = strings.ToLower(l[m].Name)
			wantGoodSources(t, l, true)
		}
	}
	// Names of the greatest length, that are alike but for the last letter, or for one letter less.
	l := sourcesOf("abcdefghij:abcdefghik abcdefghik:abcdefghi abcdefghi Zbcdefghij:abcdefghij")
	wantOrder(t, l, "2 1 0 3")
	wantBuilt(t, l, "0 0 0 0", "abcdefghi abcdefghik abcdefghij Zbcdefghij")
}

func TestTextsOfSources(t *testing.T) {
	for _, text := range []string{
		"", "A", "MODULE", "MODULE A", "MODULE ;", "MODULE A.", "module A;", "IMPORT B;", "MODULE A; IMPORT", "MODULE A; IMPORT ;", "MODULE A; IMPORT B", "MODULE A; IMPORT B,;", "MODULE A; IMPORT B C;", "MODULE A; IMPORT END;",
		"MODULE A; IMPORT 7; END A.", "MODULE MODULE; END MODULE.", "MODULE A; ?", "MODULE A; END A. (*", "MODULE A; 12X", "MODULE A; abcdefghijk", "MODULE A;" + strings.Repeat(";", 298), "MODULE A;" + strings.Repeat(" ", 1192),
	} {
		wantGoodSources(t, []impl.Source{{Name: "A", Text: text}}, false)
		for n := range 4 {
			wantGoodSources(t, withText(sourcesOf("A:B B C:A D"), n, text), false)
		}
		wantGoodSources(t, []impl.Source{{Name: "A", Text: text}, {Name: "B", Text: text}, {Name: "C", Text: text}}, false)
	}
	// No more is asked of a text than how it begins, and its bytes up to the end.
	for _, text := range []string{"MODULE A;", "MODULE A; END A.", "MODULE A; IMPORT A;", "MODULE A; IMPORT B; rest", "MODULE A; ; IMPORT B, B", "MODULE A; VAR x: X; END B.", "MODULE A;" + strings.Repeat(";", 297), "MODULE A;" + strings.Repeat(" ", 1191), "(* so *) MODULE\nA ; (* IMPORT B; *)"} {
		wantGoodSources(t, []impl.Source{{Name: "A", Text: text}}, true)
		for n := range 4 {
			wantGoodSources(t, withText(sourcesOf("A:C B C D"), n, text), true)
		}
	}
	l := withText(sourcesOf("A B C"), 0, "(* IMPORT C; *) MODULE A ; IMPORT (* C , *)\nB;IMPORT C;")
	wantNeeds(t, l, "1||")
	wantOrder(t, l, "1 0 2")
}

// TestMostImports has a text of as many imports as there can be tokens for.
func TestMostImports(t *testing.T) {
	all := strings.Repeat("H,G,F,E,D,C,B,", 21)
	text := "MODULE A; IMPORT " + all + "Z;"
	if names, ok := impl.ImportsIn(text); len(names) != 148 || !ok {
		t.Error(len(names), ok)
	}
	l := withText(sourcesOf("A B C D E F G H"), 0, text)
	wantNeeds(t, l, "1 2 3 4 5 6 7|||||||")
	wantOrder(t, l, "1 2 3 4 5 6 7 0")
	wantBuilt(t, l, "34 0 0 0 0 0 0 0", "B C D E F G H")
	// One of them leads to a ring: the last one.
	wantRing(t, withText(l, 0, "MODULE A; IMPORT "+all+"A;"), "0")
	wantRing(t, withText(withText(l, 0, "MODULE A; IMPORT "+strings.Repeat("B,C,", 73)+"D,H;"), 7, "MODULE H; IMPORT A;"), "0 7")
	wantGoodSources(t, withText(l, 0, "MODULE A; IMPORT "+all+"Z,B;"), false)
}

func TestBuildOfAll(t *testing.T) {
	l := versionsABC()
	store := wantBuilt(t, l, "0 0 0", "C B A")
	wantSameStore(t, store, storeOf(t, textOfC, textOfB, textOfA), true)
	wantStale(t, store)
	for _, order := range [][]int{{0, 2, 1}, {1, 0, 2}, {1, 2, 0}, {2, 0, 1}, {2, 1, 0}} {
		turned := []impl.Source{l[order[0]], l[order[1]], l[order[2]]}
		wantSameStore(t, wantBuilt(t, turned, "0 0 0", "C B A"), store, true)
	}
	wantBuilt(t, sourcesOf("C A B"), "0 0 0", "C A B")
	wantBuilt(t, sourcesOf("D:C C:B B:A A"), "0 0 0 0", "A B C D")
	wantBuilt(t, l[2:], "0", "C")
	// Of those that it imports some are not there.
	wantBuilt(t, l[1:], "0 0", "C B")
	wantBuilt(t, l[:2], "35 35", "")
	wantBuilt(t, l[:1], "35", "")
}

// TestBuildOfWhatIsNotCompiled has sources of which some are not compiled, and so are such as need them.
func TestBuildOfWhatIsNotCompiled(t *testing.T) {
	for _, w := range []struct {
		n            int
		change       [2]string
		codes, names string
	}{
		{2, [2]string{"END C.", "END D."}, "35 35 21", ""},
		{2, [2]string{"END C.", "END C"}, "35 35 20", ""},
		{2, [2]string{"h = 9", "h = x"}, "35 35 30", ""},
		{2, [2]string{"CONST h", "CONST n"}, "35 35 31", ""},
		{2, [2]string{"CONST h", "CONST h-"}, "35 35 32", ""},
		{2, [2]string{"n* = 3", "n* = 0"}, "35 35 33", ""},
		{2, [2]string{"CONST n*", "CONST n"}, "30 0 0", "C B"},
		{2, [2]string{"TYPE S*", "TYPE S"}, "35 30 0", "C"},
		{1, [2]string{"PROC f*", "PROC f-"}, "35 32 0", "C"},
		{1, [2]string{"k* = 4", "k* = 4 DIV 0"}, "35 33 0", "C"},
		{1, [2]string{"k* = 4", "k* = -4"}, "33 0 0", "C B"},
		{1, [2]string{"IMPORT C", "IMPORT C, C"}, "35 31 0", "C"},
		{0, [2]string{"END A.", "END A. END"}, "20 0 0", "C B"},
		{0, [2]string{"USE B.w", "USE D.w"}, "30 0 0", "C B"},
	} {
		l := versionsABC()
		wantBuilt(t, withText(l, w.n, changedText(t, l[w.n].Text, w.change)), w.codes, w.names)
	}
	// Two that are not compiled, others behind and beside.
	l := sourcesOf("F:E E:D,A D B:A A C")
	wantBuilt(t, l, "0 0 0 0 0 0", "D A E F B C")
	wantBuilt(t, withText(l, 2, "MODULE D;"), "35 35 20 0 0 0", "A B C")
	wantBuilt(t, withText(l, 4, "MODULE A; VAR x: y; END A."), "35 35 0 35 30 0", "D C")
	wantBuilt(t, withText(withText(l, 2, "MODULE D; END A."), 4, "MODULE A; END D."), "35 35 21 35 21 0", "C")
	wantBuilt(t, withText(withText(l, 5, "MODULE C; x END C."), 0, "MODULE F; IMPORT E; VAR v: E; END F."), "30 0 0 0 0 20", "D A E B")
}

// TestSourcesCalledOtherwise has texts of modules that are not called as their sources.
func TestSourcesCalledOtherwise(t *testing.T) {
	l := []impl.Source{plainSource("A", "X"), {Name: "X", Text: "MODULE Y; CONST k* = 1; END Y."}}
	wantNeeds(t, l, "1|")
	wantOrder(t, l, "1 0")
	store := wantBuilt(t, l, "35 0", "Y")
	wantNames(t, wantAnew(t, nil, l, 1, "35 0"), "Y")
	wantNames(t, wantAnew(t, store, l, 1, "35 0"), "Y")
	// Its own name in the text is not the one that the others import.
	l[0] = plainSource("A", "Y")
	wantNeeds(t, l, "|")
	wantBuilt(t, l, "35 0", "Y")
	wantBuilt(t, []impl.Source{l[1], l[0]}, "0 0", "Y A")
	wantNames(t, wantAnew(t, store, l, 0, "0 -1"), "Y A")
	// Two of one module: the one that comes behind is there.
	l = []impl.Source{{Name: "B", Text: "MODULE B; CONST k* = 1; END B."}, {Name: "X", Text: "MODULE B; CONST k* = 2; END B."}, {Name: "A", Text: "MODULE A; IMPORT B, X; END A."}, {Name: "C", Text: "MODULE C; IMPORT B; CONST n* = B.k; END C."}}
	store = wantBuilt(t, l, "0 0 35 0", "B C")
	if store[1].Scope.Objects[0].Value != 2 {
		t.Error(store)
	}
	l[2].Text = "MODULE A; IMPORT B; CONST n* = B.k; END A."
	l[2], l[1] = l[1], l[2]
	store = wantBuilt(t, l, "0 0 0 0", "B A C")
	wantStale(t, store, "A")
	// One that hangs on it and is not there by its name is put whatever the store has.
	l = []impl.Source{{Name: "B", Text: "MODULE B; CONST k* = 1; END B."}, {Name: "X", Text: "MODULE A; IMPORT B; END A."}}
	store = wantBuilt(t, l, "0 0", "B A")
	wantAnew(t, store, l, 0, "0 0")
	l[1].Name = "A"
	wantAnew(t, store, l, 0, "0 -1")
	// Of a module that is called as it is asked whether it is stale.
	l = []impl.Source{{Name: "B", Text: "MODULE B; CONST k* = 2; END B."}, {Name: "A", Text: "MODULE C; IMPORT B; END C."}}
	store = storeOf(t, "MODULE B; CONST k* = 1; END B.", "MODULE A; IMPORT B; CONST n* = B.k; END A.")
	store = wantAnew(t, store, l, 0, "0 0")
	wantNames(t, store, "B A C")
	wantStale(t, store, "A")
	// A text that imports its source's name, and one that imports itself.
	wantRing(t, []impl.Source{{Name: "A", Text: "MODULE B; IMPORT A; END B."}}, "0")
	wantBuilt(t, []impl.Source{{Name: "A", Text: "MODULE B; IMPORT B; END B."}}, "35", "")
}

// TestBuildAnewOfOne has a store of all, and then one source otherwise: for others, too, or not.
func TestBuildAnewOfOne(t *testing.T) {
	l := versionsABC()
	store := wantBuilt(t, l, "0 0 0", "C B A")
	for _, w := range []struct {
		n            int
		change       [2]string
		codes, stale string
	}{
		// As it was, and otherwise only for itself.
		{0, [2]string{"", ""}, "0 -1 -1", ""}, {1, [2]string{"", ""}, "-1 0 -1", ""}, {2, [2]string{"", ""}, "-1 -1 0", ""},
		{2, [2]string{"h = 9", "h = 10"}, "-1 -1 0", ""}, {2, [2]string{"n* = 3", "n* = 7 DIV 2"}, "-1 -1 0", ""}, {2, [2]string{"VAR v*", "VAR z*: INT; VAR v*"}, "-1 -1 0", ""},
		{1, [2]string{"CONST k*", "CONST a = 0; CONST k*"}, "-1 0 -1", ""}, {0, [2]string{"m* = B.k", "m* = B.k + 1"}, "0 -1 -1", ""},
		// Otherwise for A alone, for B and A, and for B alone.
		{2, [2]string{"VAR v*: S", "VAR v-: S"}, "0 -1 0", ""}, {2, [2]string{"n* = 3", "n* = 4"}, "0 0 0", ""}, {2, [2]string{"a*: INT", "a*: CHAR"}, "0 0 0", ""},
		{1, [2]string{"k* = 4", "k* = 5"}, "0 0 -1", ""}, {1, [2]string{"x*: INT", "x*: BOOL"}, "0 0 -1", ""}, {1, [2]string{"VAR n*: INT", "VAR n*: CHAR; VAR m*: INT"}, "0 0 -1", ""},
		// Otherwise, so that what needs it is not compiled any more.
		{2, [2]string{"VAR v*: S", "VAR v: S"}, "30 -1 0", "A"}, {2, [2]string{"TYPE S*", "TYPE S"}, "-1 30 0", "B"}, {2, [2]string{"CONST n*", "CONST n"}, "30 -1 0", "A"},
		{1, [2]string{"k* = 4", "k* = -4"}, "33 0 -1", "A"}, {1, [2]string{"VAR n*: INT", "VAR n: INT"}, "30 0 -1", "A"},
		// It is not compiled itself: nothing is otherwise.
		{2, [2]string{"h = 9", "h = x"}, "-1 -1 30", ""}, {2, [2]string{"END C.", "END B."}, "-1 -1 21", ""}, {1, [2]string{"END B.", "END B. B"}, "-1 20 -1", ""}, {0, [2]string{"IMPORT B", "IMPORT D, B"}, "35 -1 -1", ""},
	} {
		now := withText(l, w.n, changedText(t, l[w.n].Text, w.change))
		got := wantAnew(t, store, now, w.n, w.codes)
		wantNames(t, got, "C B A")
		wantStale(t, got, strings.Fields(w.stale)...)
		if strings.Contains(w.codes, "2") || strings.Contains(w.codes, "35") {
			wantSameStore(t, got, store, true)
		}
		if w.stale == "" && !slices.ContainsFunc(numbersIn(t, w.codes), func(code int) bool { return code > 0 }) {
			wantAsAll(t, now, got, numbersIn(t, w.codes))
		}
		// And back again: what was put, and what hangs on it and is otherwise by that.
		back, codes, _ := checkAnew(t, got, l, w.n)
		if wantStale(t, back); codes[w.n] != 0 {
			t.Errorf("back from %v there are %v", w.change, codes)
		}
		wantSameStore(t, back, store, true)
	}
}

// TestBuildAnewByVersions has the versions of chapter 9.
func TestBuildAnewByVersions(t *testing.T) {
	l := versionsABC()
	store := wantBuilt(t, l, "0 0 0", "C B A")
	put, not, faults := 0, 0, 0
	for _, w := range versions {
		now := withText(l, 2, changedText(t, textOfC, w.c))
		next, _, _ := checkAnew(t, store, now, 2)
		if !w.oldB {
			now = withText(now, 1, changedText(t, textOfB, w.b))
			next, _, _ = checkAnew(t, next, now, 1)
		}
		// All of it at once, from the store as it was.
		last, codes, ok := checkAnew(t, store, now, 1)
		last, codesOfC, is := checkAnew(t, last, now, 2)
		if !ok || !is {
			t.Fatal(now)
		}
		if !slices.ContainsFunc(append(codes, codesOfC...), func(code int) bool { return code > 0 }) {
			wantAsAll(t, now, last, codesOfC)
			wantAsAll(t, now, next, codesOfC)
		}
		for _, code := range append(codes, codesOfC...) {
			switch {
			case code < 0:
				not++
			case code == 0:
				put++
			default:
				faults++
			}
		}
	}
	if min(put, not, faults) < 10 {
		t.Error("too few codes of each sort", put, not, faults)
	}
}

// TestBuildAnewStopsWhereNothingIsOtherwise has a chain in which what one shows is not otherwise.
func TestBuildAnewStopsWhereNothingIsOtherwise(t *testing.T) {
	l := []impl.Source{
		{Name: "D", Text: "MODULE D; IMPORT C; CONST x* = C.x; END D."},
		{Name: "C", Text: "MODULE C; IMPORT B; CONST x* = B.x DIV 10; END C."},
		{Name: "B", Text: "MODULE B; IMPORT A; CONST x* = A.x DIV 10; END B."},
		{Name: "A", Text: "MODULE A; CONST x* = 111; END A."},
		{Name: "E", Text: "MODULE E; IMPORT A, D; CONST x* = A.x + D.x; END E."},
		{Name: "Z", Text: "MODULE Z; CONST x* = 1; END Z."},
	}
	store := wantBuilt(t, l, "0 0 0 0 0 0", "A B C D E Z")
	for _, w := range [][2]string{
		{"111", "-1 -1 -1 0 -1 -1"}, {"112", "-1 -1 0 0 0 -1"}, {"121", "-1 0 0 0 0 -1"}, {"211", "0 0 0 0 0 -1"}, {"1", "0 0 0 0 0 -1"},
	} {
		now := withText(l, 3, "MODULE A; CONST x* = "+w[0]+"; END A.")
		got := wantAnew(t, store, now, 3, w[1])
		wantAsAll(t, now, got, numbersIn(t, w[1]))
		wantNames(t, got, "A B C D E Z")
	}
	// What it was that makes one stale is asked by then: E by A, or by D as it is behind.
	now := withText(l, 0, "MODULE D; IMPORT C; CONST x* = C.x + 1; END D.")
	wantAnew(t, store, now, 0, "0 -1 -1 -1 0 -1")
	wantAnew(t, store, now, 1, "-1 0 -1 -1 -1 -1")
	wantAnew(t, store, now, 3, "-1 -1 -1 0 -1 -1")
	wantAnew(t, store, now, 4, "-1 -1 -1 -1 0 -1")
	wantAnew(t, store, now, 5, "-1 -1 -1 -1 -1 0")
	// One in the middle is not compiled: what hangs on it alone is as it was.
	now = withText(withText(l, 3, "MODULE A; CONST x* = 222; END A."), 1, "MODULE C; IMPORT B; CONST y* = B.x; CONST x* = y + ; END C.")
	got := wantAnew(t, store, now, 3, "-1 20 0 0 0 -1")
	wantStale(t, got, "C")
	wantAnew(t, got, withText(now, 1, l[1].Text), 1, "0 0 -1 -1 0 -1")
	wantAnew(t, got, withText(now, 1, l[1].Text), 2, "0 0 0 -1 0 -1")
	wantAnew(t, got, withText(now, 1, l[1].Text), 0, "0 -1 -1 -1 -1 -1")
	wantAnew(t, got, withText(now, 1, l[1].Text), 5, "-1 -1 -1 -1 -1 0")
}

// TestBuildAnewOfWhatIsNotThere has stores without some of the modules, and with others.
func TestBuildAnewOfWhatIsNotThere(t *testing.T) {
	l := versionsABC()
	store := wantBuilt(t, l, "0 0 0", "C B A")
	wantNames(t, wantAnew(t, nil, l, 2, "0 0 0"), "C B A")
	wantNames(t, wantAnew(t, []impl.Module{}, l, 1, "35 35 -1"), "")
	wantNames(t, wantAnew(t, nil, l, 0, "35 -1 -1"), "")
	wantNames(t, wantAnew(t, store[:1], l, 2, "0 0 0"), "C B A")
	wantNames(t, wantAnew(t, store[:1], l, 1, "0 0 -1"), "C B A")
	wantNames(t, wantAnew(t, store[:2], l, 2, "0 -1 0"), "C B A")
	wantNames(t, wantAnew(t, store[:2], l, 1, "0 0 -1"), "C B A")
	wantNames(t, wantAnew(t, store[:2], l, 0, "0 -1 -1"), "C B A")
	// Without C the others are stale: they are put where they hang on what is put.
	wantNames(t, wantAnew(t, store[1:], l, 2, "-1 -1 0"), "B A C")
	wantNames(t, wantAnew(t, store[1:], l, 1, "35 35 -1"), "B A")
	wantNames(t, wantAnew(t, store[1:], l, 0, "35 -1 -1"), "B A")
	wantNames(t, wantAnew(t, dropped(t, store, "B"), l, 2, "-1 0 0"), "C A B")
	wantNames(t, wantAnew(t, dropped(t, store, "B"), l, 1, "-1 0 -1"), "C A B")
	// Stale already, of whatever: those that hang on what is put, and no others.
	old := putInto(t, store, changedText(t, textOfC, [2]string{"n* = 3", "n* = 4"}))
	wantStale(t, old, "B", "A")
	wantAnew(t, old, l, 2, "-1 -1 0")
	now := withText(l, 2, changedText(t, textOfC, [2]string{"n* = 3", "n* = 4"}))
	wantAnew(t, old, now, 2, "0 0 0")
	wantAnew(t, old, now, 1, "0 0 -1")
	wantStale(t, wantAnew(t, old, now, 0, "36 -1 -1"), "B", "A")
	// Modules of other names are there still, stale or not; those of files are never stale.
	other := putInto(t, store, "MODULE Z; IMPORT C; USE C.n; END Z.", "MODULE Y; IMPORT B; CONST y* = B.k; END Y.")
	odd := oddExport()
	odd.Name = "Odd"
	got := wantAnew(t, filedInto(t, other, odd), now, 2, "0 0 0")
	wantNames(t, got, "C B A Z Y Odd")
	wantStale(t, got, "Z")
	filed := filedInto(t, nil, store[2].Scope, store[1].Scope)
	wantNames(t, wantAnew(t, filed, l, 2, "-1 -1 0"), "A B C")
	wantNames(t, wantAnew(t, filed, now, 2, "-1 -1 0"), "A B C")
}

func TestBuildAnewInFullStores(t *testing.T) {
	l := versionsABC()
	full := numberedStore(8)
	wantSameStore(t, wantAnew(t, full, l, 2, "35 35 40"), full, true)
	wantSameStore(t, wantAnew(t, full, l, 1, "35 35 -1"), full, true)
	wantSameStore(t, wantAnew(t, full, l, 0, "35 -1 -1"), full, true)
	wantNames(t, wantAnew(t, full[:7], l, 2, "35 40 0"), "D0 D1 D2 D3 D4 D5 D6 C")
	wantNames(t, wantAnew(t, full[:6], l, 2, "40 0 0"), "D0 D1 D2 D3 D4 D5 C B")
	wantNames(t, wantAnew(t, full[:5], l, 2, "0 0 0"), "D0 D1 D2 D3 D4 C B A")
	// One that is there has room.
	on := []impl.Source{{Name: "D3", Text: "MODULE D3; IMPORT D7; CONST k0* = D7.k0; END D3."}, {Name: "D7", Text: "MODULE D7; CONST k0* = 5; END D7."}, {Name: "New", Text: "MODULE New; IMPORT D7, D3; END New."}}
	got := wantAnew(t, full, on, 0, "0 -1 40")
	wantNames(t, got, storeNames(full))
	wantAnew(t, got, on, 1, "0 0 40")
	wantAnew(t, got[1:], on, 1, "0 0 0")
	wantAnew(t, full, on, 1, "-1 0 40")
	wantAnew(t, full, on, 2, "-1 -1 40")
	// The sources alone fill a store.
	most := sourcesOf("A:B B:C C:D D:E E:F F:G G:H H")
	store := wantBuilt(t, most, "0 0 0 0 0 0 0 0", "H G F E D C B A")
	wantAnew(t, store, most, 0, "0 -1 -1 -1 -1 -1 -1 -1")
	wantAnew(t, full[:1], most, 7, "40 0 0 0 0 0 0 0")
}

// TestBuildsOfWhatIsNotGood asks with sources, stores and numbers that are not as said.
func TestBuildsOfWhatIsNotGood(t *testing.T) {
	l := versionsABC()
	store := wantBuilt(t, l, "0 0 0", "C B A")
	for _, n := range append([]int{-3, -2, -1, 3, 4, 8, 1 << 32}, farNumbers...) {
		wantNotAnew(t, store, l, n)
		wantNotAnew(t, nil, l, n)
		wantNoneHang(t, l, n)
	}
	for _, old := range storesOfAllSorts(t) {
		good := goodStoreByForm(old)
		for n := range l {
			if _, _, ok := checkAnew(t, old, l, n); ok != good {
				t.Errorf("BuildAnew(%v, %v, %d) tells %v", old, l, n, ok)
			}
		}
	}
	for _, bad := range [][]impl.Source{
		{{}}, append(versionsABC(), impl.Source{}), append(versionsABC(), plainSource("A")), withText(l, 0, "MODULE"), withText(l, 2, ""), sourcesOf("A:A"), sourcesOf("A:B B:A C:D"), withText(l, 2, "MODULE C; IMPORT A; END C."),
	} {
		wantNotBuilt(t, bad)
		for n := range bad {
			wantNotAnew(t, store, bad, n)
		}
	}
	// All at once.
	wantNotAnew(t, numberedStore(9), sourcesOf("A:A"), -1)
	wantNotAnew(t, make([]impl.Module, 1), make([]impl.Source, 1), 1)
}

func TestOrdersWriteIntoNothing(t *testing.T) {
	stores := storesOfAllSorts(t)
	for i, words := range []string{"", "A", "B:A A", "A:B B:A", "A:C B C:B D:A", "A B C D E F G H", "A B C D E F G H I", "A A", "A:A B:A"} {
		l := append(sourcesOf(words), impl.Source{})[:len(strings.Fields(words))]
		for _, sources := range [][]impl.Source{l, append(l[:len(l):len(l)], versionsABC()[i%3]), versionsABC()} {
			old := stores[i%len(stores)]
			before, kept := slices.Clone(sources), copyOfStore(old)
			for n := -1; n <= len(sources); n++ {
				callOrder(old, sources, n)
			}
			if !slices.Equal(sources, before) || !reflect.DeepEqual(old, kept) {
				t.Fatalf("%v or store %d is written into", before, i)
			}
		}
	}
	for i, old := range stores {
		kept := copyOfStore(old)
		for n := range 3 {
			callOrder(old, versionsABC(), n)
		}
		if !reflect.DeepEqual(old, kept) {
			t.Fatalf("store %d is written into", i)
		}
	}
}

func TestWhatLiesBehindSources(t *testing.T) {
	plain := versionsABC()
	l, room := behind(plain, plainSource("Far", "A"), impl.Source{Name: "A", Text: "?"})
	before := slices.Clone(room)
	wantGoodSources(t, l, true)
	wantNeeds(t, l, "1 2|2|")
	wantOrder(t, l, "2 1 0")
	wantHanging(t, l, "|0|0 1")
	store := wantBuilt(t, l, "0 0 0", "C B A")
	now, nowRoom := behind(withText(plain, 2, changedText(t, textOfC, [2]string{"n* = 3", "n* = 4"})), plainSource("Far", "A"))
	nowBefore := slices.Clone(nowRoom)
	for _, old := range [][]impl.Module{store, store[:1], numberedStore(6), nil} {
		far, same := storeApart(old)
		for n := range now {
			checkAnew(t, far, now, n)
			callOrder(far, now, n)
		}
		if !same() {
			t.Error("what lies behind a store, or a list of it, is written into")
		}
	}
	if !slices.Equal(room, before) || !slices.Equal(nowRoom, nowBefore) {
		t.Error("what lies behind sources is written into")
	}
}

// withOwnSources tells sources with each text in memory of its own.
func withOwnSources(l []impl.Source) []impl.Source {
	l = slices.Clone(l)
	for i, one := range l {
		l[i] = impl.Source{Name: strings.Clone(one.Name), Text: strings.Clone(one.Text)}
	}
	return l
}

func sourceTexts(l []impl.Source) []string {
	var texts []string
	for _, one := range l {
		texts = append(texts, one.Name, one.Text)
	}
	return texts
}

func TestNeedsAreNewMemory(t *testing.T) {
	l := withOwnSources(sourcesOf("A:C,B B:C C D:A,C,B E:D"))
	first, _ := impl.NeedsIn(l)
	second, _ := impl.NeedsIn(l)
	apart(t, first, second)
	apart(t, first, l)
	lists := slices.Concat(first, second)
	for i, one := range lists {
		for _, other := range lists[:i] {
			apart(t, one, other)
		}
		apart(t, one, first)
	}
	for _, one := range first {
		clear(one[:cap(one)])
	}
	clear(first[:cap(first)])
	wantNeeds(t, l, "1 2|2||0 1 2|3")
	if !slices.EqualFunc(second, wiringOf(l).needs(), slices.Equal) {
		t.Error(second)
	}
	// Two that need the same.
	l = withOwnSources(sourcesOf("A B:A C:A D:A"))
	first, _ = impl.NeedsIn(l)
	for i, one := range first {
		for _, other := range first[:i] {
			apart(t, one, other)
		}
	}
	for _, tell := range []func() []int{
		func() []int { order, _ := impl.OrderOf(l); return order },
		func() []int { hanging, _ := impl.HangOn(l, 0); return hanging },
		func() []int { ring, _ := impl.RingOf(sourcesOf("A:B B:C C:A")); return ring },
		func() []int { _, codes, _ := impl.BuildAll(l); return codes },
		func() []int { _, codes, _ := impl.BuildAnew(nil, l, 1); return codes },
	} {
		one, other := tell(), tell()
		apart(t, one, other)
		kept := slices.Clone(other)
		clear(one[:cap(one)])
		if !slices.Equal(other, kept) || !slices.Equal(tell(), kept) || len(kept) == 0 {
			t.Error("an answer is kept", kept, other)
		}
	}
}

func TestBuildsAreNewMemory(t *testing.T) {
	l := withOwnSources(versionsABC())
	given := sourceTexts(l)
	first, _, _ := impl.BuildAll(l)
	second, _, _ := impl.BuildAll(l)
	wantNewStore(t, first, storeSpans(second), given)
	kept := copyOfStore(first)
	clearStore(first)
	if !sameStoreByHand(second, kept) {
		t.Error("an answer is kept", second)
	}
	old := withOwnStore(kept)
	shared := []impl.Module{{Scope: old[0].Scope, Seen: old[2].Seen}, {Scope: old[0].Scope, Seen: old[2].Seen}, old[1]}
	shared[1].Scope.Name = "Z"
	for _, text := range []string{textOfC, changedText(t, textOfC, [2]string{"n* = 3", "n* = 4"}), changedText(t, textOfC, [2]string{"n* = 3", "n* = x"}), changedText(t, textOfC, [2]string{"v*", "v"})} {
		now := withText(l, 2, strings.Clone(text))
		for n := range now {
			for _, from := range [][]impl.Module{old, shared} {
				first, _, _ := impl.BuildAnew(from, now, n)
				second, _, _ := impl.BuildAnew(from, now, n)
				wantNewStore(t, first, append(storeSpans(from), storeSpans(second)...), append(storeTexts(from), sourceTexts(now)...))
				wantNewStore(t, second, storeSpans(from), nil)
				kept := copyOfStore(first)
				clearStore(first)
				if !sameStoreByHand(second, kept) {
					t.Error("an answer is kept", second)
				}
				checkAnew(t, from, now, n)
			}
		}
	}
}

// TestReadersAreWaitedFor asks again and again, also of texts that are not read: no goroutine is left.
func TestReadersAreWaitedFor(t *testing.T) {
	before := runtime.NumGoroutine()
	for _, l := range [][]impl.Source{versionsABC(), sourcesOf("A B C D E F G H"), withText(sourcesOf("A B C D E F G H"), 3, "?"), slices.Repeat([]impl.Source{{Name: "A"}}, 8), withText(withText(versionsABC(), 0, "MODULE"), 2, ""), {{Name: "A"}, {Name: "B"}, {Name: "C"}}} {
		for range 100 {
			callOrder(nil, l, 0)
		}
	}
	// One that has told all may still be about to end.
	for range 100 {
		if runtime.NumGoroutine() <= before {
			return
		}
		time.Sleep(10 * time.Millisecond)
	}
	t.Errorf("of %d goroutines are %d left", before, runtime.NumGoroutine())
}

// TestNothingIsKeptOfOrders changes sources between calls, and asks from many sides at once.
func TestNothingIsKeptOfOrders(t *testing.T) {
	l := sourcesOf("A:B B C:A")
	wantOrder(t, l, "1 0 2")
	l[1] = plainSource("B", "C")
	wantRing(t, l, "0 1 2")
	l[0].Text = ""
	wantGoodSources(t, l, false)
	l[0] = plainSource("A")
	wantOrder(t, l, "0 2 1")
	wantHanging(t, l, "1 2||1")
	l[2].Name = "A"
	wantGoodSources(t, l, false)
	l[2].Name = "C"
	store := wantBuilt(t, l, "0 0 0", "A C B")
	rich := versionsABC()
	for i := range 8 {
		t.Run("side", func(t *testing.T) {
			t.Parallel()
			for k := range 10 {
				switch (i + k) % 4 {
				case 0:
					wantOrder(t, l, "0 2 1")
				case 1:
					wantAnew(t, store, l, 0, "0 -1 -1")
				case 2:
					wantBuilt(t, rich, "0 0 0", "C B A")
				default:
					wantHanging(t, l, "1 2||1")
				}
			}
		})
	}
}
