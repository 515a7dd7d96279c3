package tests

import (
	"math"
	"reflect"
	"slices"
	"strconv"
	"strings"
	"testing"

	"loop.example/g00837/impl"
)

// wantDiff asks for the changes between two scopes, which are written down as words, and for those back.
func wantDiff(t *testing.T, a, b impl.Scope, words string) {
	t.Helper()
	want := changesOf(words)
	if got, ok := impl.DiffScopes(a, b); !slices.Equal(got, want) || !ok {
		t.Errorf("DiffScopes(%v, %v) = %v, %v, want %s", a, b, got, ok, words)
	}
	wider := !strings.ContainsAny(words, "-!")
	if is, ok := impl.IsWider(a, b); is != wider || !ok {
		t.Errorf("IsWider(%v, %v) = %v, %v by %s", a, b, is, ok, words)
	}
	checkDiff(t, a, b)
}

// wantWords asks for the text of changes, and for the changes of that text.
func wantWords(t *testing.T, c []impl.Change, text string) {
	t.Helper()
	if got, ok := impl.DiffText(c); got != text || !ok {
		t.Errorf("DiffText(%v) = %q, %v, want %q", c, got, ok, text)
	}
	if got, ok := impl.ReadDiff(text); !slices.Equal(got, c) || !ok {
		t.Errorf("ReadDiff(%q) = %v, %v, want %v", text, got, ok, c)
	}
	checkChanges(t, c)
	checkDiffRead(t, text)
}

func wantTurned(t *testing.T, words, turned string) {
	t.Helper()
	if got, ok := impl.TurnDiff(changesOf(words)); !slices.Equal(got, changesOf(turned)) || !ok {
		t.Errorf("TurnDiff of %q = %v, %v, want %q", words, got, ok, turned)
	}
	checkChanges(t, changesOf(words))
}

// wantTouchedNames asks for the names that are touched, with blanks between.
func wantTouchedNames(t *testing.T, l []impl.Seen, mod, words, names string) {
	t.Helper()
	if got, ok := impl.TouchedBy(l, mod, changesOf(words)); !slices.Equal(got, strings.Fields(names)) || !ok {
		t.Errorf("TouchedBy(%v, %q, %s) = %v, %v, want %s", l, mod, words, got, ok, names)
	}
	checkTouched(t, l, mod, changesOf(words))
}

// wantNotTouched asks for the zero answer of TouchedBy.
func wantNotTouched(t *testing.T, l []impl.Seen, mod string, c []impl.Change) {
	t.Helper()
	if got, ok := impl.TouchedBy(l, mod, c); len(got) != 0 || ok {
		t.Errorf("TouchedBy(%v, %q, %v) = %v, %v", l, mod, c, got, ok)
	}
}

// wantNoChanges asks for the zero answers of changes that are not good.
func wantNoChanges(t *testing.T, c []impl.Change) {
	t.Helper()
	if got, ok := impl.DiffText(c); got != "" || ok {
		t.Errorf("DiffText(%v) = %q, %v", c, got, ok)
	}
	if got, ok := impl.TurnDiff(c); len(got) != 0 || ok {
		t.Errorf("TurnDiff(%v) = %v, %v", c, got, ok)
	}
	wantNotTouched(t, nil, "A", c)
	wantNotTouched(t, seenOf("A.a B.b", 0), "A", c)
	if len(c) < 1000 && checkChanges(t, c) {
		t.Errorf("%v is good by form", c)
	}
}

// wantNoDiffText asks for the zero answer of a text of no changes.
func wantNoDiffText(t *testing.T, s string) {
	t.Helper()
	if got, ok := impl.ReadDiff(s); len(got) != 0 || ok {
		t.Errorf("ReadDiff(%q) = %v, %v", s, got, ok)
	}
	if checkDiffRead(t, s) {
		t.Errorf("%q is read by form", s)
	}
}

// wantNoDiffs asks for the zero answers of two scopes both ways.
func wantNoDiffs(t *testing.T, a, b impl.Scope) {
	t.Helper()
	wantNoDiff(t, a, b)
	wantNoDiff(t, b, a)
}

// showing tells a scope that shows constants of some names, each with its place as its value.
func showing(names string) impl.Scope {
	s := scopeOf(impl.BaseTypes())
	for _, name := range strings.Fields(names) {
		s.Objects = append(s.Objects, constOf(name, 1, len(name)))
	}
	return s
}

func TestDiffConstantsAreAsTold(t *testing.T) {
	if impl.ChNew != 1 || impl.ChGone != 2 || impl.ChOther != 3 {
		t.Error(impl.ChNew, impl.ChGone, impl.ChOther)
	}
}

func TestScopesAndThemselves(t *testing.T) {
	for _, s := range append(exports(t), fullScope(), greatestScope(), scopeOf(impl.BaseTypes()), showing("b a"), impl.Scope{Name: "Z", Types: mixedTypes()}) {
		wantDiff(t, s, s, "")
		wantDiff(t, s, copyOfScope(s), "")
	}
}

func TestNamesMoreAndLess(t *testing.T) {
	for _, w := range [][3]string{
		{"b d f", "a b d f", "+a"}, {"b d f", "b c d f", "+c"}, {"b d f", "b d e f", "+e"}, {"b d f", "b d f g", "+g"},
		{"b d f", "d f", "-b"}, {"b d f", "b f", "-d"}, {"b d f", "b d", "-f"},
		{"b d f", "a d f", "+a -b"}, {"b d f", "c d f", "-b +c"}, {"b d f", "b d g", "-f +g"}, {"b d f", "b d e", "+e -f"},
		{"b d f", "a b c d e f g", "+a +c +e +g"}, {"a b c d e f g", "b d f", "-a -c -e -g"},
		{"b d f", "a c e g", "+a -b +c -d +e -f +g"}, {"a b c", "d e f", "-a -b -c +d +e +f"}, {"d e f", "a b c", "+a +b +c -d -e -f"},
		{"", "a", "+a"}, {"a", "", "-a"}, {"", "", ""}, {"", "c a b", "+a +b +c"}, {"c a b", "", "-a -b -c"}, {"a", "b", "-a +b"}, {"b", "a", "+a -b"},
		// By bytes: digits ahead of capitals, these ahead of all else, and a name ahead of a longer one.
		{"a", "A Z aa a0 a aZ z B", "+A +B +Z +a0 +aZ +aa +z"}, {"ab abc", "a ab abcd", "+a -abc +abcd"}, {"a10 a9", "a1 a9", "+a1 -a10"},
		{"abcdefghij", "abcdefghik abcdefghii", "+abcdefghii -abcdefghij +abcdefghik"}, {"INT MODULE", "MODULE A", "+A -INT"},
	} {
		wantDiff(t, showing(w[0]), showing(w[1]), w[2])
		for _, kind := range []func(name string) impl.Object{
			func(name string) impl.Object { return varOf(name, 2, 0) },
			func(name string) impl.Object { return typeOf(name, 1, 2) },
			func(name string) impl.Object { return procOf(name, 1, -1, param("a", true, 1)) },
		} {
			a, b := showing(w[0]), showing(w[1])
			for _, s := range []impl.Scope{a, b} {
				for i, o := range s.Objects {
					s.Objects[i] = kind(o.Name)
				}
			}
			wantDiff(t, a, b, w[2])
		}
	}
}

// TestNamesInWhateverOrder has the objects of both scopes in all orders.
func TestNamesInWhateverOrder(t *testing.T) {
	r := &row{seed: 7}
	a, b := showing("b d f h k"), showing("a b e f k z")
	b.Objects[1].Value, b.Objects[4].Value = 7, -7
	for range 100 {
		a, b = r.turnedObjects(a), r.turnedObjects(b)
		wantDiff(t, a, b, "+a !b -d +e -h !k +z")
		wantDiff(t, b, a, "-a !b +d -e +h !k -z")
	}
	slices.SortFunc(a.Objects, func(one, other impl.Object) int { return strings.Compare(other.Name, one.Name) })
	wantDiff(t, a, b, "+a !b -d +e -h !k +z")
}

// TestNamesOtherwise changes one object in one thing at a time, of a few that are shown.
func TestNamesOtherwise(t *testing.T) {
	s := scopeOf(tableOf(recordOf(-1, field("x", 1, 0), field("p", 0, 4)), pointerTo(3), arrayOf(2, 0)),
		constOf("k", 1, 4), typeOf("R", 1, 3), varOf("v", 1, 0), procOf("f", 1, 0, param("a", true, 0), param("b", false, 3)), procOf("g", 1, -1))
	at := func(s *impl.Scope, name string) *impl.Object {
		return &s.Objects[slices.IndexFunc(s.Objects, func(o impl.Object) bool { return o.Name == name })]
	}
	for _, w := range []struct {
		words  string
		change func(s *impl.Scope)
	}{
		{"", func(s *impl.Scope) {}},
		{"!k", func(s *impl.Scope) { at(s, "k").Value = 5 }},
		{"!k", func(s *impl.Scope) { at(s, "k").Value = -4 }},
		{"!k", func(s *impl.Scope) { at(s, "k").Value = 0 }},
		{"!k", func(s *impl.Scope) { *at(s, "k") = varOf("k", 1, 0) }},
		{"!k", func(s *impl.Scope) { *at(s, "k") = typeOf("k", 1, 0) }},
		{"!k", func(s *impl.Scope) { *at(s, "k") = procOf("k", 1, 0) }},
		{"!R", func(s *impl.Scope) { at(s, "R").Type = 4 }},
		{"!R", func(s *impl.Scope) { at(s, "R").Kind = 3 }},
		{"!R", func(s *impl.Scope) { at(s, "R").Kind = 4 }},
		{"!v", func(s *impl.Scope) { at(s, "v").Kind = 2 }},
		{"!v", func(s *impl.Scope) { at(s, "v").Mark = 2 }},
		{"!v", func(s *impl.Scope) { at(s, "v").Type = 1 }},
		{"!v", func(s *impl.Scope) { at(s, "v").Type = 5 }},
		{"!f", func(s *impl.Scope) { at(s, "f").Type = -1 }},
		{"!f", func(s *impl.Scope) { at(s, "f").Type = 2 }},
		{"!f", func(s *impl.Scope) { at(s, "f").Params[0].ByVar = false }},
		{"!f", func(s *impl.Scope) { at(s, "f").Params[1].ByVar = true }},
		{"!f", func(s *impl.Scope) { at(s, "f").Params[0].Name = "c" }},
		{"!f", func(s *impl.Scope) { at(s, "f").Params[1].Name = "B" }},
		{"!f", func(s *impl.Scope) { at(s, "f").Params[0].Type = 1 }},
		{"!f", func(s *impl.Scope) { at(s, "f").Params[1].Type = 4 }},
		{"!f", func(s *impl.Scope) { at(s, "f").Params = at(s, "f").Params[:1] }},
		{"!f", func(s *impl.Scope) { at(s, "f").Params = at(s, "f").Params[1:] }},
		{"!f", func(s *impl.Scope) { slices.Reverse(at(s, "f").Params) }},
		{"!f", func(s *impl.Scope) { at(s, "f").Params = append(at(s, "f").Params, param("c", false, 0)) }},
		{"!g", func(s *impl.Scope) { at(s, "g").Type = 0 }},
		{"!g", func(s *impl.Scope) { at(s, "g").Params = []impl.Param{param("a", false, 0)} }},
		{"!R !f !k !v", func(s *impl.Scope) {
			at(s, "k").Value, at(s, "R").Type, at(s, "v").Mark, at(s, "f").Type = 3, 5, 2, 1
		}},
		{"!R !f !g !k !v", func(s *impl.Scope) {
			at(s, "k").Value, at(s, "R").Type, at(s, "v").Mark, at(s, "f").Type, at(s, "g").Type = 3, 5, 2, 1, 4
		}},
		// With another Name it is another one, whatever else is alike.
		{"+K -k", func(s *impl.Scope) { at(s, "k").Name = "K" }},
		{"+A !f -v +z", func(s *impl.Scope) {
			at(s, "v").Name, at(s, "f").Type = "z", -1
			s.Objects = append(s.Objects, constOf("A", 1, 0))
		}},
		{"-R -f -g -v", func(s *impl.Scope) { s.Objects = s.Objects[:1] }},
		{"!f !k !v", func(s *impl.Scope) {
			*at(s, "k"), *at(s, "v"), *at(s, "f") = varOf("k", 1, 0), constOf("v", 1, 4), procOf("f", 1, -1)
		}},
	} {
		wantDiff(t, s, changedScope(s, w.change), w.words)
	}
}

// TestTypesBehindNames: types alone are otherwise, how they are numbered, or what they reach.
func TestTypesBehindNames(t *testing.T) {
	s := fullScope()
	wantDiff(t, s, renumberedScope(s, []int{0, 1, 2, 10, 9, 8, 7, 6, 5, 4, 3}), "")
	one := scopeOf(tableOf(arrayOf(2, 0)), procOf("p", 1, 3, param("a", true, 3)))
	two := scopeOf(tableOf(arrayOf(2, 0), arrayOf(2, 0)), procOf("p", 1, 4, param("a", true, 3)))
	wantDiff(t, one, two, "")
	two.Types[3].Long = 3
	wantDiff(t, one, two, "!p")
	// list reaches the types 8, 6 and 7, R 3, 4, 5, 6 and 7, and so does find.
	for _, w := range []struct {
		words  string
		change func(s *impl.Scope)
	}{
		{"!R !find", func(s *impl.Scope) { s.Types[3].Name = "RR" }},
		{"!R !find", func(s *impl.Scope) { s.Types[3].Fields[0].Mark = 2 }},
		{"!R !find", func(s *impl.Scope) { s.Types[3].Fields[0].Name = "X" }},
		{"!R !find", func(s *impl.Scope) { s.Types[3].Fields[2].Type = 1 }},
		{"!R !find", func(s *impl.Scope) { s.Types[3].Fields = s.Types[3].Fields[:2] }},
		{"!R !find", func(s *impl.Scope) { s.Types[4].Owner, s.Types[4].Name = "", "" }},
		{"!R !find", func(s *impl.Scope) { s.Types[5].Base = -1 }},
		{"!R !find", func(s *impl.Scope) { s.Types[5].Fields[1].Type = 2 }},
		{"!R !find !list", func(s *impl.Scope) { s.Types[6].Long = 11 }},
		{"!R !find !list", func(s *impl.Scope) { s.Types[7].Base = 0 }},
		{"!R !find !list", func(s *impl.Scope) { s.Types[7].Owner = "Bb" }},
		{"!list", func(s *impl.Scope) { s.Types[8].Base = 7 }},
		// These are reached from what is hidden alone.
		{"", func(s *impl.Scope) { s.Types[9].Fields = []impl.Field{field("q", 1, 1)} }},
		{"", func(s *impl.Scope) { s.Types[10].Base = -1 }},
		{"", func(s *impl.Scope) { s.Types = append(s.Types, arrayOf(5, 10), pointerTo(11)) }},
	} {
		other := changedScope(s, w.change)
		wantDiff(t, s, other, w.words)
		wantDiff(t, other, s, w.words)
	}
	// Of a ring of records the last one is otherwise: all that come to it are.
	ring := func(many int, other func(record *impl.Type)) impl.Scope {
		s := scopeOf(ringOf(many, other), varOf("i", 1, 0))
		for n := range many {
			s.Objects = append(s.Objects, varOf("r"+strconv.Itoa(n), 1, 3+2*n))
		}
		return s
	}
	same := func(*impl.Type) {}
	wantDiff(t, ring(4, same), ring(4, same), "")
	wantDiff(t, ring(4, same), ring(4, func(r *impl.Type) { r.Fields[0].Mark = 2 }), "!r0 !r1 !r2 !r3")
	wantDiff(t, ring(3, same), ring(5, same), "+r3 +r4")
}

// TestWhatIsHiddenIsNoChange: objects that are hidden in both, or shown in one alone.
func TestWhatIsHiddenIsNoChange(t *testing.T) {
	hidden := func(s impl.Scope, names string) impl.Scope {
		return changedScope(s, func(s *impl.Scope) {
			for i, o := range s.Objects {
				if slices.Contains(strings.Fields(names), o.Name) {
					s.Objects[i].Mark = 0
				}
			}
		})
	}
	s := showing("a b c")
	all := hidden(s, "a b c")
	wantDiff(t, all, all, "")
	wantDiff(t, hidden(s, "b"), hidden(s, "b"), "")
	wantDiff(t, s, hidden(s, "b"), "-b")
	wantDiff(t, hidden(s, "b"), s, "+b")
	wantDiff(t, s, hidden(s, "a c"), "-a -c")
	wantDiff(t, hidden(s, "a b"), hidden(s, "b c"), "+a -c")
	wantDiff(t, s, all, "-a -b -c")
	wantDiff(t, all, s, "+a +b +c")
	wantDiff(t, all, scopeOf(impl.BaseTypes()), "")
	wantDiff(t, scopeOf(impl.BaseTypes()), all, "")
	wantDiff(t, scopeOf(impl.BaseTypes()), hidden(s, "c"), "+a +b")
	// Only what is hidden is otherwise, gone or new, and that is never told.
	for n, change := range []func(s *impl.Scope){
		func(s *impl.Scope) { s.Objects[0].Value = 1000 },
		func(s *impl.Scope) { s.Objects[0].Name = "zz" },
		func(s *impl.Scope) { s.Objects[0] = varOf("AA", 0, 9) },
		func(s *impl.Scope) { s.Objects[4].Type = 3 },
		func(s *impl.Scope) { s.Objects[6].Type = 3 },
		func(s *impl.Scope) { s.Objects[9].Params = nil },
		func(s *impl.Scope) { s.Objects = s.Objects[:9] },
		func(s *impl.Scope) { s.Objects = s.Objects[1:] },
		func(s *impl.Scope) { s.Objects = append(s.Objects, constOf("more", 0, 7), varOf("A", 0, 10)) },
		func(s *impl.Scope) {
			s.Objects = slices.DeleteFunc(s.Objects, func(o impl.Object) bool { return o.Mark == 0 })
		},
	} {
		other := changedScope(fullScope(), change)
		if !impl.GoodScope(other) {
			t.Errorf("change %d makes the scope bad", n)
		}
		wantDiff(t, fullScope(), other, "")
		wantDiff(t, other, fullScope(), "")
	}
	// What is shown now and what was hidden and otherwise.
	wantDiff(t, fullScope(), changedScope(fullScope(), func(s *impl.Scope) { s.Objects[0].Mark, s.Objects[9].Mark, s.Objects[1].Mark = 1, 1, 0 }), "+help +hidden -list")
	// Fields that are hidden have names in a scope, and none in what it tells to others.
	wantDiff(t, fullScope(), exportOfFull(), "!R !find")
	wantDiff(t, withoutHiddenNames(fullScope()), exportOfFull(), "")
}

// TestOtherNamesAndUses: what a scope is called, imports and uses is not asked.
func TestOtherNamesAndUses(t *testing.T) {
	s := fullScope()
	for _, change := range []func(s *impl.Scope){
		func(s *impl.Scope) { s.Name = "Z" },
		func(s *impl.Scope) { s.Name = "moduleName" },
		func(s *impl.Scope) { s.Name = "R" },
		func(s *impl.Scope) { s.Uses = nil },
		func(s *impl.Scope) { s.Uses = s.Uses[1:] },
		func(s *impl.Scope) { s.Uses[0].Name = "other" },
		func(s *impl.Scope) { s.Imports, s.Uses = nil, nil },
		func(s *impl.Scope) { s.Imports = append(s.Imports, "Dd") },
		func(s *impl.Scope) { slices.Reverse(s.Imports) },
		func(s *impl.Scope) { s.Name, s.Imports, s.Uses = "B", []string{"A"}, usesOf("A.x A.y") },
	} {
		other := changedScope(s, change)
		wantDiff(t, s, other, "")
		other.Objects[1].Mark = 1
		wantDiff(t, s, other, "!list")
		wantDiff(t, other, s, "!list")
	}
	wantDiff(t, exportOfFull(), ringScope(), "!R -find -free -least -list -run +v")
	wantDiff(t, exportOfFull(), oddExport(), "-R +Z +abcdefghij +b +c +d +e +f -find -free +g -least -list -run")
}

func TestWhichScopesAreWider(t *testing.T) {
	is := func(a, b impl.Scope, wider bool) {
		t.Helper()
		if got, ok := impl.IsWider(a, b); got != wider || !ok {
			t.Errorf("IsWider(%v, %v) = %v, %v", a, b, got, ok)
		}
	}
	s := showing("b d")
	for _, w := range []struct {
		names string
		wider bool
	}{{"b d", true}, {"d b", true}, {"a b d", true}, {"b c d", true}, {"b d e", true}, {"z e d c b a", true}, {"b", false}, {"d", false}, {"", false}, {"a c e", false}, {"b e", false}, {"a d", false}, {"B D", false}} {
		is(s, showing(w.names), w.wider)
		checkDiff(t, s, showing(w.names))
	}
	is(showing(""), s, true)
	is(showing(""), showing(""), true)
	for n := range s.Objects {
		other := showing("b d a c e")
		other.Objects[n].Value = 9
		is(s, other, false)
		is(other, s, false)
		other.Objects[n].Mark = 0
		is(s, other, false)
	}
	other := showing("b d a c e")
	other.Objects[2].Value = 9
	is(s, other, true)
	is(other, s, false)
}

// longNames tells that many rising names of the greatest length.
func longNames(many int, first string) []string {
	var names []string
	for n := range many {
		names = append(names, first+"nameOf"+strconv.Itoa(100+n))
	}
	return names
}

// TestMostChanges has two scopes of MaxObjects names each, no one of which is in both.
func TestMostChanges(t *testing.T) {
	a, b := longNames(16, "a"), longNames(16, "b")
	from, to := showing(strings.Join(a, " ")), showing(strings.Join(b, " "))
	words := "-" + strings.Join(a, " -") + " +" + strings.Join(b, " +")
	wantDiff(t, from, to, words)
	wantDiff(t, to, from, strings.NewReplacer("-", "+", "+", "-").Replace(words))
	c, _ := impl.DiffScopes(from, to)
	if len(c) != 32 || len(words) != 383 {
		t.Error(len(c), len(words))
	}
	wantWords(t, c, words)
	wantTouchedNames(t, seenOf("A.bnameOf115 A.anameOf100 A.anameOf116 B.anameOf100", 1), "A", words, "bnameOf115 anameOf100")
	// Names by turns.
	var odd, even []string
	for n, name := range longNames(32, "c") {
		if n%2 == 0 {
			even = append(even, name)
		} else {
			odd = append(odd, name)
		}
	}
	if c, _ = checkDiff(t, showing(strings.Join(odd, " ")), showing(strings.Join(even, " "))); len(c) != 32 || c[0].Kind != 1 || c[31].Kind != 2 {
		t.Error(c)
	}
	wantNoChanges(t, append(c, impl.Change{Name: "z", Kind: 1}))
	wantNoChanges(t, append([]impl.Change{{Name: "a", Kind: 3}}, c...))
	wantWords(t, c[1:], wordsByHand(c)[12:])
	wantNoDiffText(t, words+" +z")
	wantNoDiffText(t, "!a "+words)
	more := changesOf("+" + strings.Join(longNames(33, "n"), " +"))
	wantNoChanges(t, more)
	wantWords(t, more[1:], wordsByHand(more[1:]))
	wantNoDiffText(t, wordsByHand(more))
	wantNoChanges(t, changesOf("!"+strings.Join(longNames(64, "n"), " !")))
	var many []impl.Change
	for n := range 100000 {
		many = append(many, impl.Change{Name: "n" + strconv.Itoa(100000+n), Kind: 1})
	}
	wantNoChanges(t, many)
	// All of MaxObjects are otherwise.
	other := copyOfScope(from)
	for i := range other.Objects {
		other.Objects[i].Value++
	}
	wantDiff(t, from, other, "!"+strings.Join(a, " !"))
}

func TestTurnedChanges(t *testing.T) {
	for _, w := range [][2]string{
		{"", ""}, {"+a", "-a"}, {"-a", "+a"}, {"!a", "!a"}, {"+a -b !c", "-a +b !c"}, {"!A -B +C !a -b +c", "!A +B -C !a +b -c"},
	} {
		wantTurned(t, w[0], w[1])
		wantTurned(t, w[1], w[0])
	}
	for i, w := range scopeChanges {
		if !w.good {
			continue
		}
		s := changedScope(fullScope(), w.change)
		c, ok := checkDiff(t, fullScope(), s)
		back, _ := impl.DiffScopes(s, fullScope())
		turned, is := impl.TurnDiff(c)
		if !slices.Equal(turned, back) || !ok || !is {
			t.Errorf("by change %d there are %v, and %v back", i, c, back)
		}
	}
}

func TestTextsOfChanges(t *testing.T) {
	for _, text := range []string{
		"", "+a", "-a", "!a", "+A", "-Z9", "!abcdefghij", "+INT", "-MODULE", "+a +b", "+a -b !c", "!R +h -v +w", "+A +B +a +b", "-a -a0 -aA -aa -ab -b",
		"!a1 !a10 !a2", "+abcdefghii !abcdefghij -abcdefghik",
	} {
		wantWords(t, changesOf(text), text)
	}
	for kind, sign := range map[int]string{1: "+", 2: "-", 3: "!"} {
		for _, name := range goodNames {
			wantWords(t, []impl.Change{{Name: name, Kind: kind}}, sign+name)
		}
	}
	wantWords(t, []impl.Change{}, "")
	wantWords(t, []impl.Change{{Name: "a", Kind: impl.ChNew}, {Name: "b", Kind: impl.ChGone}, {Name: "c", Kind: impl.ChOther}}, "+a -b !c")
}

func TestTextsOfNoChanges(t *testing.T) {
	for _, s := range []string{
		// Blanks at the front, at the end, two in a row, and nothing but these.
		" ", "  ", " +a", "+a ", "+a  +b", "  +a", "+a  ", " +a +b ", "+a +b ", " !a -b", "+a   -b", "+ a", "+a + b", "+\n", "+a\n", "+a\n+b", "+a\t+b", "\n", "+a\x00+b", "+a\x00",
		// A sign without a name, a name without a sign, and signs that are others, or in other places.
		"+", "-", "!", "+a +", "+ +a", "+a - +c", "a", "ab", "+a b", "a +b", "+a b -c", "+a+b", "+a-", "a+", "+a !", "++a", "+-a", "!+a", "*a", "?a", "=a", "#a", ",a", "/a", "\"a", " a", "\x00a", "\xffa", "+a *b", "+a ?b", "\xe2\x88\x92a", "\xef\xbc\x8ba",
		"1a", "A", "+a,+b", "+a, +b", "+a;-b", "a!", "a-",
		// Names that do not rise, or that are alike.
		"+b +a", "+a +c +b", "+b +a +c", "+a +A", "+a -A", "+aa +a", "+a2 +a10", "+a +a", "+a -a", "+a !a", "-a +b -b", "+a +b +c +c", "!b !b", "+a +b +a",
		"0", "+0", "nil", "none", "[]", "{}",
	} {
		wantNoDiffText(t, s)
	}
	for _, name := range badNames {
		for _, sign := range []string{"+", "-", "!"} {
			wantNoDiffText(t, sign+name)
			wantNoDiffText(t, "+A "+sign+name)
			wantNoDiffText(t, sign+name+" +zz")
		}
	}
	for _, text := range []string{"+a -b !c", "!abcdefghij"} {
		for n := range len(text) {
			checkDiffRead(t, text[:n])
			checkDiffRead(t, text[n:])
			for c := range 256 {
				one := string([]byte{byte(c)})
				checkDiffRead(t, text[:n]+one+text[n:])
				checkDiffRead(t, text[:n]+one+text[n+1:])
			}
		}
	}
}

// TestLongTextsOfChanges: good changes have no more than 383 bytes, so that no text of 500 is theirs.
func TestLongTextsOfChanges(t *testing.T) {
	longest := "+" + strings.Join(longNames(32, "n"), " +")
	wantWords(t, changesOf(longest), longest)
	if len(longest) != 383 {
		t.Error(len(longest))
	}
	for _, long := range []int{384, 385, 394, 395, 498, 499, 500, 501, 502, 600, 1000, 100000} {
		wantNoDiffText(t, longest+strings.Repeat(" ", long-383))
		wantNoDiffText(t, longest+strings.Repeat("a", long-383))
		wantNoDiffText(t, strings.Repeat(" ", long))
		wantNoDiffText(t, "+"+strings.Repeat("a", long-1))
		wantNoDiffText(t, (longest + " +" + strings.Join(longNames(10000, "p"), " +"))[:long])
	}
	// Of names of one byte and two as many fit as there are not Kinds for.
	short := "+a"
	for n := range 40 {
		short += " +b" + strconv.Itoa(10+n)
		if n < 31 {
			wantWords(t, changesOf(short), short)
		} else {
			wantNoDiffText(t, short)
		}
	}
	// Rising words, all of them good, of exactly 500 bytes and of 501.
	rising := ""
	for n := range 71 {
		rising += "+n" + strconv.Itoa(1000+n) + " "
	}
	if len(rising) != 497 {
		t.Error(len(rising))
	}
	wantNoDiffText(t, rising+"+zz")
	wantNoDiffText(t, rising+"+zzz")
}

func TestWhatIsTouched(t *testing.T) {
	l := seenOf("B.k C.k B.R A.b B.a C.z B.b", 1, 2, 3)
	for _, w := range [][3]string{
		{"B", "", ""}, {"B", "+k", "k"}, {"B", "-k", "k"}, {"B", "!k", "k"}, {"C", "!k", "k"}, {"A", "!k", ""}, {"D", "!k", ""}, {"b", "!k", ""},
		// In the order of what was seen.
		{"B", "!R !a !b !k", "k R a b"}, {"B", "+R -a !b +k", "k R a b"}, {"B", "!A !B !K !a !z", "a"}, {"B", "!a !b", "a b"}, {"B", "-R !k", "k R"},
		{"C", "!R !a !b !k !z", "k z"}, {"A", "!R !a !b !k !z", "b"}, {"B", "!z", ""}, {"C", "!a !b", ""}, {"A", "+a +z", ""},
		{"B", "!aa !kk !r", ""}, {"k", "!B !b !k", ""}, {"B", "!B !C", ""},
	} {
		wantTouchedNames(t, l, w[0], w[1], w[2])
		wantTouchedNames(t, nil, w[0], w[1], "")
		wantTouchedNames(t, []impl.Seen{}, w[0], w[1], "")
	}
	slices.Reverse(l)
	wantTouchedNames(t, l, "B", "+R -a !b +k", "b a R k")
	// Of another module, with a name that is changed.
	wantTouchedNames(t, seenOf("C.k", 1), "B", "!k", "")
	wantTouchedNames(t, seenOf("C.k D.k E.k", 1), "B", "!k", "")
	wantTouchedNames(t, seenOf("C.k B.k D.k", 1), "B", "!k", "k")
	// What is called as the module, or as a word that is kept.
	wantTouchedNames(t, seenOf("B.B B.MODULE B.INT", 0), "B", "+B -INT !MODULE", "B MODULE INT")
	for _, mod := range goodNames {
		one := []impl.Seen{{Mod: "B", Name: "k"}, {Mod: mod, Name: "k", Sum: math.MaxInt}, {Mod: mod, Name: "x"}}
		wantTouchedNames(t, one, mod, "-k", "k")
		wantTouchedNames(t, one, mod, "-j -l", "")
		wantTouchedNames(t, one, "B", "-k -x", "k")
	}
	most := mostSeen(40)
	var all []string
	for _, one := range most {
		all = append(all, one.Name)
	}
	names := slices.Clone(all)
	slices.Sort(names)
	wantTouchedNames(t, most, "M", "!"+strings.Join(names[:32], " !"), strings.Join(slices.DeleteFunc(all, func(name string) bool { return name >= names[32] }), " "))
}

// TestVersionsTouchClients has the versions of chapter 9, put into a store one by one.
func TestVersionsTouchClients(t *testing.T) {
	var counts touchCounts
	old := storeOf(t, textOfC, textOfB, textOfA)
	for _, w := range versions {
		now := putInto(t, old, changedText(t, textOfC, w.c))
		wantTouched(t, old, now, &counts)
		if !w.oldB {
			last := putInto(t, now, changedText(t, textOfB, w.b))
			wantTouched(t, now, last, &counts)
			wantTouched(t, old, last, &counts)
			now = last
		}
		c, _ := checkDiff(t, old[0].Scope, now[0].Scope)
		b, _ := checkDiff(t, old[1].Scope, now[1].Scope)
		must, _ := impl.MustCompile(now[2].Seen, scopesIn(now))
		if anew := len(checkTouched(t, now[2].Seen, "C", c))+len(checkTouched(t, now[2].Seen, "B", b)) > 0; anew != must || must != (w.others != "") {
			t.Errorf("by %v and %v A is touched by %v and %v: %v", w.c, w.b, c, b, anew)
		}
	}
	if counts.touched < 40 || counts.other < 10 {
		t.Error("too few versions touch A, or not", counts)
	}
}

// TestChangesOfOneModule has texts of one module, the changes between them, and what they touch of what
// a client saw.
func TestChangesOfOneModule(t *testing.T) {
	text := "MODULE B; CONST k* = 4; CONST h = 9; TYPE R* = RECORD x*: INT; y: BOOL END; TYPE P* = POINTER TO R; VAR v*: P; VAR w-: INT; PROC f* (VAR a: R): BOOL; END B."
	old := storeOf(t, text, "MODULE A; IMPORT B; USE B.w; USE B.v; CONST n* = B.k; PROC g* (p: B.P); END A.")
	for _, w := range []struct {
		change         [2]string
		words, touched string
	}{
		{[2]string{"h = 9", "h = 10"}, "", ""},
		{[2]string{"k* = 4", "k* = 2 + 2"}, "", ""},
		{[2]string{"y: BOOL", "other: BOOL"}, "", ""},
		{[2]string{"k* = 4; CONST h = 9", "h = 9; CONST k* = 4"}, "", ""},
		{[2]string{"CONST h", "CONST h*"}, "+h", ""},
		{[2]string{"END B.", "VAR A*: R; VAR z*: INT; VAR n*: CHAR; END B."}, "+A +n +z", ""},
		{[2]string{"PROC f*", "PROC f"}, "-f", ""},
		{[2]string{"(VAR a: R)", "(a: R)"}, "!f", ""},
		{[2]string{"PROC f*", "PROC F*"}, "+F -f", ""},
		{[2]string{"k* = 4", "k* = 5"}, "!k", "k"},
		{[2]string{"CONST k*", "CONST k"}, "-k", "k"},
		{[2]string{"CONST k*", "CONST K*"}, "+K -k", "k"},
		{[2]string{"CONST k* = 4;", "VAR k*: INT;"}, "!k", "k"},
		{[2]string{"VAR w-", "VAR w*"}, "!w", "w"},
		{[2]string{"VAR w-: INT", "VAR w-: CHAR"}, "!w", "w"},
		{[2]string{"VAR v*: P", "VAR v*: R"}, "!v", "v"},
		// P is the same pointer, to something that is otherwise.
		{[2]string{"x*: INT", "x-: INT"}, "!P !R !f !v", "v P"},
		{[2]string{"y: BOOL", "y: CHAR"}, "!P !R !f !v", "v P"},
		{[2]string{"TYPE P* = POINTER TO R; VAR v*: P;", "TYPE Q* = POINTER TO R; VAR v*: Q;"}, "-P +Q !v", "v P"},
		{[2]string{"VAR w-: INT; PROC f* (VAR a: R): BOOL;", "PROC f* (VAR a: R): INT; CONST w* = 1; CONST a* = 0;"}, "+a !f !w", "w"},
	} {
		now := putInto(t, old, changedText(t, text, w.change))
		wantDiff(t, old[0].Scope, now[0].Scope, w.words)
		c, _ := impl.DiffScopes(old[0].Scope, now[0].Scope)
		wantTouchedNames(t, old[1].Seen, "B", w.words, w.touched)
		wantTouchedNames(t, old[1].Seen, "A", w.words, "")
		var counts touchCounts
		wantTouched(t, old, now, &counts)
		uses, _ := impl.WhyStale(now, "A")
		var names []string
		for _, use := range uses {
			names = append(names, use.Name)
		}
		if !slices.Equal(names, strings.Fields(w.touched)) {
			t.Errorf("by %v of what A saw is otherwise %v, want %s", c, names, w.touched)
		}
		// And all of it back again.
		wantTouched(t, now, old, &counts)
	}
}

// TestDiffsOfWhatIsNotGood asks with a scope that is not good as the first one, the second one, and both.
func TestDiffsOfWhatIsNotGood(t *testing.T) {
	good := []impl.Scope{fullScope(), scopeOf(impl.BaseTypes()), showing("a b")}
	for _, bad := range badScopes() {
		for _, s := range good {
			wantNoDiffs(t, s, bad)
		}
		wantNoDiffs(t, bad, bad)
		wantNoDiffs(t, bad, impl.Scope{})
	}
	tooMany := showing(strings.Join(longNames(17, "a"), " "))
	for _, s := range good {
		wantNoDiffs(t, tooMany, s)
	}
	wantNoDiffs(t, tooMany, tooMany)
	for _, name := range badNames {
		s := showing("a b")
		s.Name = name
		wantNoDiffs(t, s, showing("a b c"))
		s = showing("a b")
		s.Objects[1].Name = name
		wantNoDiffs(t, s, showing("a b c"))
	}
}

func TestTouchedOfWhatIsNotGood(t *testing.T) {
	c := changesOf("+a -b !k")
	wantTouchedNames(t, seenOf("B.k", 1), "B", "+a -b !k", "k")
	for _, name := range badNames {
		wantNotTouched(t, seenOf("B.k", 1), name, c)
		wantNotTouched(t, nil, name, nil)
		wantNotTouched(t, []impl.Seen{{Mod: name, Name: "k"}}, name, c)
		wantNotTouched(t, []impl.Seen{{Mod: name, Name: "k"}}, "B", c)
		wantNotTouched(t, []impl.Seen{{Mod: "B", Name: name}}, "B", c)
		wantNotTouched(t, append(seenOf("B.k", 1), impl.Seen{Mod: "C", Name: name}), "B", nil)
	}
	for _, l := range [][]impl.Seen{seenOf("B.k B.k", 1), seenOf("B.k C.k B.k", 1, 2), seenOf("B.k", -1), seenOf("B.a C.k", 1, -1<<63), mostSeen(41), make([]impl.Seen, 1), make([]impl.Seen, 100000)} {
		wantNotTouched(t, l, "B", c)
		wantNotTouched(t, l, "M", c)
		wantNotTouched(t, l, "B", nil)
		wantNotTouched(t, l, "", changesOf("+b +a"))
	}
}

func TestChangesThatAreNotGood(t *testing.T) {
	good := changesOf("+a -k !m +s")
	for _, kind := range append([]int{-1, -2, -3, 0, 4, 5, 6, 255, 256, 257, 1 << 32, 1<<32 + 1}, farNumbers...) {
		wantNoChanges(t, []impl.Change{{Name: "a", Kind: kind}})
		for n := range good {
			bad := slices.Clone(good)
			bad[n].Kind = kind
			wantNoChanges(t, bad)
		}
	}
	for _, name := range badNames {
		for kind := 1; kind <= 3; kind++ {
			wantNoChanges(t, []impl.Change{{Name: name, Kind: kind}})
			for n := range good {
				bad := slices.Clone(good)
				bad[n].Name = name
				wantNoChanges(t, bad)
			}
		}
	}
	for n := range good {
		for m := range n {
			bad := slices.Clone(good)
			bad[n], bad[m] = bad[m], bad[n]
			wantNoChanges(t, bad)
			bad = slices.Clone(good)
			bad[n].Name = good[m].Name
			wantNoChanges(t, bad)
			bad = slices.Clone(good)
			bad[m].Name = good[n].Name
			wantNoChanges(t, bad)
		}
	}
	for _, words := range []string{"+a +a", "+b +a", "+a +B", "+a -a", "!ab !a", "+a1 +a0", "+a +b +b", "+b +b +c"} {
		wantNoChanges(t, changesOf(words))
	}
	wantNoChanges(t, make([]impl.Change, 1))
	wantNoChanges(t, make([]impl.Change, 33))
	wantNoChanges(t, append(changesOf("+a"), impl.Change{}))
	wantNoChanges(t, append([]impl.Change{{}}, good...))
}

func TestDiffsWriteIntoNothing(t *testing.T) {
	turned := renumberedScope(fullScope(), []int{0, 1, 2, 10, 9, 8, 7, 6, 5, 4, 3})
	lists := [][]impl.Change{nil, {}, changesOf("+a -b !k"), changesOf("+b -a"), changesOf("!R !find"), make([]impl.Change, 40)}
	scopes := append(append(badScopes(), exports(t)...), fullScope(), turned, greatestScope(), showing("c b a"))
	for i, a := range scopes {
		b := scopes[(i*7+3)%len(scopes)]
		for k, c := range lists {
			l := [][]impl.Seen{nil, seenOf("A.k B.a A.a A.zz", 0, 1), seenOf("A.k A.k", 0)}[k%3]
			first, second, seen, changes := copyOfScope(a), copyOfScope(b), copyOfSeen(l), slices.Clone(c)
			callDiffs(a, b, l, "A", c, "+a -b")
			callDiffs(b, a, l, "", c, "+b -a")
			callDiffs(a, fullScope(), l, "A", c, "")
			if !reflect.DeepEqual(a, first) || !reflect.DeepEqual(b, second) || !slices.Equal(l, seen) || !slices.Equal(c, changes) {
				t.Fatalf("scope %d, its match, %v or %v is written into", i, seen, changes)
			}
		}
	}
}

func TestWhatLiesBehindDiffs(t *testing.T) {
	for _, s := range append(exports(t), fullScope(), showing("b a")) {
		one, same := laidApart(s)
		other, sameOther := laidApart(changedScope(s, func(s *impl.Scope) { s.Objects = s.Objects[:max(0, len(s.Objects)-1)] }))
		wantDiff(t, one, s, "")
		wantDiff(t, s, one, "")
		c, _ := checkDiff(t, one, other)
		if slices.ContainsFunc(c, func(one impl.Change) bool { return one.Name == "far" }) {
			t.Error("what lies behind is told", c)
		}
		if !same() || !sameOther() {
			t.Errorf("what lies behind the lists of %v is written into", s)
		}
	}
	c, room := behind(changesOf("+a -b !k"), impl.Change{Name: "m", Kind: 1}, impl.Change{Name: "a", Kind: 9})
	l, seenRoom := behind(seenOf("A.m A.k B.a", 4), impl.Seen{Mod: "A", Name: "a"}, impl.Seen{Mod: "A", Name: "k", Sum: -1})
	kept, keptSeen := slices.Clone(room), copyOfSeen(seenRoom)
	wantWords(t, c, "+a -b !k")
	if got, ok := impl.TouchedBy(l, "A", c); !slices.Equal(got, []string{"k"}) || !ok {
		t.Error(got, ok)
	}
	checkChanges(t, c)
	checkTouched(t, l, "B", c)
	callDiffs(fullScope(), fullScope(), l, "A", c, "")
	if !slices.Equal(room, kept) || !slices.Equal(seenRoom, keptSeen) {
		t.Error("what lies behind the changes, or what was seen, is written into")
	}
}

// namesOfChanges tells the names of changes.
func namesOfChanges(c []impl.Change) []string {
	var names []string
	for _, one := range c {
		names = append(names, one.Name)
	}
	return names
}

func TestDiffAnswersAreNewMemory(t *testing.T) {
	a, b := withOwnTexts(fullScope()), withOwnTexts(exportOfFull())
	a.Objects, b.Objects = a.Objects[:5], b.Objects[2:]
	given := append(textsOf(a), textsOf(b)...)
	first, _ := impl.DiffScopes(a, b)
	second, _ := impl.DiffScopes(a, b)
	want := changesOf("!R +find +free -least -list +run")
	if !slices.Equal(first, want) {
		t.Fatal(first)
	}
	apart(t, first, second)
	apartTexts(t, given, namesOfChanges(first)...)
	turned, _ := impl.TurnDiff(second)
	again, _ := impl.TurnDiff(second)
	apart(t, turned, again)
	apart(t, turned, second)
	apartTexts(t, namesOfChanges(second), namesOfChanges(turned)...)
	text := strings.Clone("+a !long -name")
	read, _ := impl.ReadDiff(text)
	readAgain, _ := impl.ReadDiff(text)
	apart(t, read, readAgain)
	apartTexts(t, []string{text}, namesOfChanges(read)...)
	mod := strings.Clone("B")
	l := []impl.Seen{{Mod: strings.Clone("B"), Name: strings.Clone("name")}, {Mod: strings.Clone("C"), Name: strings.Clone("a")}, {Mod: strings.Clone("B"), Name: strings.Clone("long")}}
	names, _ := impl.TouchedBy(l, mod, read)
	namesAgain, _ := impl.TouchedBy(l, mod, read)
	apart(t, names, namesAgain)
	apartTexts(t, append(namesOfChanges(read), mod, l[0].Name, l[2].Name), names...)
	word, _ := impl.DiffText(read[:1])
	apartTexts(t, namesOfChanges(read), word)
	clear(first[:cap(first)])
	clear(turned[:cap(turned)])
	clear(read[:cap(read)])
	clear(names[:cap(names)])
	if !slices.Equal(second, want) || !slices.Equal(again, turnedByHand(want)) || !slices.Equal(readAgain, changesOf(text)) || !slices.Equal(namesAgain, []string{"name", "long"}) {
		t.Error("an answer is kept", second, again, readAgain, namesAgain)
	}
	wantDiff(t, a, b, "!R +find +free -least -list +run")
}

// TestNothingIsKeptOfDiffs changes scopes between calls, and asks from many sides at once.
func TestNothingIsKeptOfDiffs(t *testing.T) {
	a, b := showing("a b c"), showing("a b c")
	wantDiff(t, a, b, "")
	b.Objects[1].Value = 9
	wantDiff(t, a, b, "!b")
	b.Objects[1].Mark = 0
	wantDiff(t, a, b, "-b")
	wantDiff(t, b, a, "+b")
	b.Objects[1].Value, b.Objects[1].Mark = 1, 1
	wantDiff(t, a, b, "")
	b.Name = "a b"
	wantNoDiffs(t, a, b)
	b.Name = "B"
	wantDiff(t, a, b, "")
	other := showing("b d")
	for i := range 8 {
		t.Run("side", func(t *testing.T) {
			t.Parallel()
			for k := range 20 {
				switch (i + k) % 3 {
				case 0:
					wantDiff(t, a, other, "-a -c +d")
				case 1:
					wantDiff(t, other, a, "+a +c -d")
				default:
					wantWords(t, changesOf("+a -b"), "+a -b")
				}
			}
		})
	}
}
