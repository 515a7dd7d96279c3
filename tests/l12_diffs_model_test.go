package tests

import (
	"reflect"
	"regexp"
	"slices"
	"sort"
	"strconv"
	"strings"
	"testing"

	"loop.example/g00837/impl"
)

// goodChangesByForm asks each change against all others.
func goodChangesByForm(c []impl.Change) bool {
	if len(c) > 32 {
		return false
	}
	for i, one := range c {
		if !nameForm.MatchString(one.Name) || !isIn(one.Kind, 1, 3) {
			return false
		}
		if slices.ContainsFunc(c[:i], func(other impl.Change) bool { return other.Name >= one.Name }) {
			return false
		}
	}
	return true
}

// shownByName tells the objects that a scope shows, each with its name.
func shownByName(s impl.Scope) map[string]impl.Object {
	at := map[string]impl.Object{}
	for _, o := range s.Objects {
		if o.Mark != 0 {
			at[o.Name] = o
		}
	}
	return at
}

// diffByForm tells the changes between good scopes, object by object and without a finger, and puts
// them in order behind that.
func diffByForm(a, b impl.Scope) []impl.Change {
	alike := allAlike(a.Types, b.Types)
	was, is := shownByName(a), shownByName(b)
	var c []impl.Change
	for name, one := range was {
		if other, there := is[name]; !there {
			c = append(c, impl.Change{Name: name, Kind: 2})
		} else if !alikeByForm(one, other, alike) {
			c = append(c, impl.Change{Name: name, Kind: 3})
		}
	}
	for name := range is {
		if _, there := was[name]; !there {
			c = append(c, impl.Change{Name: name, Kind: 1})
		}
	}
	sort.Slice(c, func(i, k int) bool { return c[i].Name < c[k].Name })
	return c
}

// turnedByHand tells the changes that lead back.
func turnedByHand(c []impl.Change) []impl.Change {
	var l []impl.Change
	for _, one := range c {
		l = append(l, impl.Change{Name: one.Name, Kind: map[int]int{1: 2, 2: 1, 3: 3}[one.Kind]})
	}
	return l
}

// wordsByHand tells the text of changes; one of another Kind has the sign `?`.
func wordsByHand(c []impl.Change) string {
	var text string
	for i, one := range c {
		sign, is := map[int]string{1: "+", 2: "-", 3: "!"}[one.Kind]
		if !is {
			sign = "?"
		}
		if i > 0 {
			text += " "
		}
		text += sign + one.Name
	}
	return text
}

var diffForm = regexp.MustCompile(`^([-+!][A-Za-z][A-Za-z0-9]{0,9}( [-+!][A-Za-z][A-Za-z0-9]{0,9}){0,31})?$`)

// diffInText tells the changes of a text that has the form of one.
func diffInText(s string) ([]impl.Change, bool) {
	if len(s) > 500 || !diffForm.MatchString(s) {
		return nil, false
	}
	c := changesOf(s)
	if !goodChangesByForm(c) {
		return nil, false
	}
	return c, true
}

// changesOf tells changes that are written down as words, in whatever order.
func changesOf(words string) []impl.Change {
	var c []impl.Change
	for _, word := range strings.Fields(words) {
		c = append(c, impl.Change{Name: word[1:], Kind: map[byte]int{'+': 1, '-': 2, '!': 3}[word[0]]})
	}
	return c
}

func touchedByHand(l []impl.Seen, mod string, c []impl.Change) ([]string, bool) {
	if !goodSeenByForm(l) || !nameForm.MatchString(mod) || !goodChangesByForm(c) {
		return nil, false
	}
	var names []string
	for _, one := range l {
		for _, change := range c {
			if one.Mod == mod && one.Name == change.Name {
				names = append(names, one.Name)
			}
		}
	}
	return names, true
}

// checkTouched asks for what some changes touch, and tells it.
func checkTouched(t *testing.T, l []impl.Seen, mod string, c []impl.Change) []string {
	t.Helper()
	want, good := touchedByHand(l, mod, c)
	if got, ok := impl.TouchedBy(l, mod, c); !slices.Equal(got, want) || ok != good {
		t.Fatalf("TouchedBy(%v, %q, %v) = %v, %v, want %v, %v", l, mod, c, got, ok, want, good)
	}
	return want
}

// checkChanges asks for all that is told of changes alone, and tells whether they are good.
func checkChanges(t *testing.T, c []impl.Change) bool {
	t.Helper()
	good := goodChangesByForm(c)
	var text string
	var turned []impl.Change
	if good {
		text, turned = wordsByHand(c), turnedByHand(c)
	}
	if got, ok := impl.DiffText(c); got != text || ok != good {
		t.Fatalf("DiffText(%v) = %q, %v, want %q, %v", c, got, ok, text, good)
	}
	if got, ok := impl.TurnDiff(c); !slices.Equal(got, turned) || ok != good {
		t.Fatalf("TurnDiff(%v) = %v, %v, want %v, %v", c, got, ok, turned, good)
	}
	checkTouched(t, nil, "A", c)
	checkTouched(t, seenOf("A.a A.b B.a B.c", 0), "A", c)
	if !good {
		return false
	}
	if again, ok := impl.TurnDiff(turned); !slices.Equal(again, c) || !ok {
		t.Fatalf("turned twice %v is %v, %v", c, again, ok)
	}
	if again, ok := impl.ReadDiff(text); !slices.Equal(again, c) || !ok {
		t.Fatalf("ReadDiff(%q) = %v, %v, want %v", text, again, ok, c)
	}
	return true
}

// checkDiffRead asks for what ReadDiff tells of any text, and tells whether there are such changes.
func checkDiffRead(t *testing.T, s string) bool {
	t.Helper()
	want, good := diffInText(s)
	got, ok := impl.ReadDiff(s)
	if !slices.Equal(got, want) || ok != good {
		t.Fatalf("ReadDiff(%q) = %v, %v, want %v, %v", s, got, ok, want, good)
	}
	if !good {
		return false
	}
	if again, ok := impl.DiffText(got); again != s || !ok {
		t.Fatalf("DiffText(%v) = %q, %v, want %q", got, again, ok, s)
	}
	return true
}

// wantNoDiff asks for the zero answers of two scopes of which at least one is not good.
func wantNoDiff(t *testing.T, a, b impl.Scope) {
	t.Helper()
	if c, ok := impl.DiffScopes(a, b); len(c) != 0 || ok {
		t.Errorf("DiffScopes(%v, %v) = %v, %v", a, b, c, ok)
	}
	if is, ok := impl.IsWider(a, b); is || ok {
		t.Errorf("IsWider(%v, %v) = %v, %v", a, b, is, ok)
	}
}

// wantByFingers asks that just those names are changed that FingerAt does not tell alike.
func wantByFingers(t *testing.T, a, b impl.Scope, c []impl.Change) {
	t.Helper()
	for _, o := range slices.Concat(a.Objects, b.Objects) {
		was, wasThere := impl.FingerAt(a, o.Name)
		is, isThere := impl.FingerAt(b, o.Name)
		want := 0
		switch {
		case wasThere && !isThere:
			want = 2
		case isThere && !wasThere:
			want = 1
		case was != is:
			want = 3
		}
		n := slices.IndexFunc(c, func(one impl.Change) bool { return one.Name == o.Name })
		if n < 0 && want != 0 || n >= 0 && c[n].Kind != want {
			t.Fatalf("of %s is told %v, and not %d", o.Name, c, want)
		}
	}
}

// checkDiff asks for the changes between two scopes, and back, and tells these and whether there are any.
func checkDiff(t *testing.T, a, b impl.Scope) ([]impl.Change, bool) {
	t.Helper()
	if !scopeByForm(a) || !scopeByForm(b) {
		wantNoDiff(t, a, b)
		wantNoDiff(t, b, a)
		return nil, false
	}
	want := diffByForm(a, b)
	got, ok := impl.DiffScopes(a, b)
	if !slices.Equal(got, want) || !ok {
		t.Fatalf("DiffScopes(%v, %v) = %v, %v, want %v", a, b, got, ok, want)
	}
	if back, ok := impl.DiffScopes(b, a); !slices.Equal(back, turnedByHand(want)) || !ok {
		t.Fatalf("DiffScopes(%v, %v) = %v, %v, and %v back", b, a, back, ok, want)
	}
	wantByFingers(t, a, b, want)
	for _, w := range []struct {
		a, b impl.Scope
		c    []impl.Change
	}{{a, b, want}, {b, a, turnedByHand(want)}} {
		wider := !slices.ContainsFunc(w.c, func(one impl.Change) bool { return one.Kind != 1 })
		if is, ok := impl.IsWider(w.a, w.b); is != wider || !ok {
			t.Fatalf("IsWider(%v, %v) = %v, %v, want %v", w.a, w.b, is, ok, wider)
		}
	}
	if !checkChanges(t, want) {
		t.Fatalf("the changes %v are not good", want)
	}
	return want, true
}

// touchCounts are how often the module of a store that is another version now touched one that stands,
// and how often it had changes that did not.
type touchCounts struct {
	touched, other int
}

// othersOf tells of each module of a store what is no more as it saw it, by the names of modules.
func othersOf(t *testing.T, l []impl.Module) map[string]map[string][]string {
	t.Helper()
	all := map[string]map[string][]string{}
	mods := scopesIn(l)
	for _, one := range l {
		uses, ok := impl.CheckSeen(one.Seen, mods)
		must, _ := impl.MustCompile(one.Seen, mods)
		if !ok || must != (len(uses) > 0) {
			t.Fatalf("of %v by %v is told %v, %v, and that it must be anew: %v", one, mods, uses, ok, must)
		}
		of := map[string][]string{}
		for _, use := range uses {
			of[use.Mod] = append(of[use.Mod], use.Name)
		}
		all[one.Scope.Name] = of
	}
	return all
}

// wantTouched asks for promise 12 of a store and what became of it: each module that stands as it was,
// and of which nothing was otherwise by one that is another version now, must be anew by that just where
// a change touches what it saw.
func wantTouched(t *testing.T, before, now []impl.Module, counts *touchCounts) {
	t.Helper()
	was, is := othersOf(t, before), othersOf(t, now)
	for _, m := range now {
		mod := m.Scope.Name
		n := numberIn(before, mod)
		if n < 0 || sameByHand(before[n].Scope, m.Scope) {
			continue
		}
		c, ok := checkDiff(t, before[n].Scope, m.Scope)
		if !ok {
			t.Fatalf("no changes between %v and %v", before[n], m)
		}
		for _, client := range now {
			name := client.Scope.Name
			k := numberIn(before, name)
			if k < 0 || !slices.Equal(before[k].Seen, client.Seen) || len(was[name][mod]) > 0 {
				continue
			}
			touched := checkTouched(t, client.Seen, mod, c)
			if !slices.Equal(touched, is[name][mod]) {
				t.Fatalf("%v touches %v of what %s saw, of which %v is otherwise", c, touched, name, is[name])
			}
			if len(touched) > 0 {
				counts.touched++
			} else if len(c) > 0 && len(client.Seen) > 0 {
				counts.other++
			}
		}
	}
}

// goOn puts a text, or takes a module away, as it comes, and tells whether the store is another one then.
func (h *storeHistory) goOn() bool {
	if h.below(30) == 0 && len(h.store) > 0 {
		h.store, _ = impl.DropModule(h.store, h.store[h.below(len(h.store))].Scope.Name)
		return true
	}
	text := h.oneText()
	got, code, _, _ := impl.PutModule(h.store, text)
	words := strings.Fields(text)
	// Else hardly any module could take something from many others.
	if code != 0 || len(got[numberIn(got, words[1])].Scope.Types) >= 14 {
		return false
	}
	h.store, h.texts[words[1]] = got, strings.Join(words, " ")
	return true
}

// TestChangesOfStoresThatGoOn lets stores go on, and holds each module against its next version.
func TestChangesOfStoresThatGoOn(t *testing.T) {
	var counts touchCounts
	for seed := range 4 {
		h := &storeHistory{scribe: &scribe{row: &row{seed: uint64(110 + seed)}}, texts: map[string]string{}}
		for range 1000 {
			if before := h.store; h.goOn() {
				wantTouched(t, before, h.store, &counts)
			}
		}
	}
	t.Log(counts)
	if counts.touched < 100 || counts.other < 500 {
		t.Error("too few modules are touched, or not", counts)
	}
}

// TestClientsMustBeAnewWhereTouched makes mods of which one is another one by then, without a text.
func TestClientsMustBeAnewWhereTouched(t *testing.T) {
	r := &row{seed: 17}
	anew, not := 0, 0
	for range 4000 {
		mods := r.someMods()
		m := modsModelOf(mods)
		l, ok := m.seen(r.someClient(mods))
		if !ok {
			continue
		}
		n := r.below(len(mods))
		other := copyOfMods(mods)
		other[n] = exportByStack(r.otherGood(other[n]))
		other[n].Name = mods[n].Name
		c, _ := checkDiff(t, mods[n], other[n])
		touched := checkTouched(t, l, mods[n].Name, c)
		must, ok := impl.MustCompile(l, other)
		if must != (len(touched) > 0) || !ok {
			t.Fatalf("%v touches %v of %v, and MustCompile tells %v, %v", c, touched, l, must, ok)
		}
		if must {
			anew++
		} else if len(c) > 0 {
			not++
		}
	}
	t.Log(anew, not)
	if anew < 300 || not < 500 {
		t.Error("too few clients of each sort", anew, not)
	}
}

// otherVersion tells a scope that is otherwise in one thing or in several.
func (r *row) otherVersion(s impl.Scope) impl.Scope {
	switch r.below(6) {
	case 0:
		s = r.turnedObjects(r.changedObject(s))
	case 1:
		s = r.otherwiseHidden(s)
	case 2:
		s = r.changed(s)
	case 3:
		s = r.changedObject(r.changedObject(s))
	case 4:
		return r.withOtherObjects(s)
	}
	return r.changedObject(s)
}

// otherGood tells a good scope that is otherwise.
func (r *row) otherGood(s impl.Scope) impl.Scope {
	other := r.otherVersion(s)
	for !scopeByForm(other) {
		other = r.otherVersion(s)
	}
	return other
}

// withOtherObjects tells a scope of which some objects are gone, and some are there that were not.
func (r *row) withOtherObjects(s impl.Scope) impl.Scope {
	s = copyOfScope(s)
	s.Objects = slices.DeleteFunc(s.Objects, func(impl.Object) bool { return r.below(3) == 0 })
	for n := range r.below(5) {
		name := string(rune('a'+r.below(4))) + "n" + strconv.Itoa(n)
		s.Objects = append(s.Objects, r.someObject(name, len(s.Types)))
	}
	return r.turnedObjects(s)
}

func TestManyDiffs(t *testing.T) {
	r := &row{seed: 23}
	kinds := map[int]int{}
	many, none, not := 0, 0, 0
	for range 2500 {
		s := r.someScope()
		if _, ok := checkDiff(t, s, r.otherVersion(s)); !ok {
			not++
		}
		if !scopeByForm(s) {
			continue
		}
		last := s
		for range 3 {
			last = r.otherGood(last)
			c, _ := checkDiff(t, s, last)
			for _, one := range c {
				kinds[one.Kind]++
			}
			switch {
			case len(c) == 0:
				none++
			case len(c) > 3:
				many++
			}
		}
	}
	t.Log(kinds, many, none, not)
	if min(kinds[1], kinds[2], kinds[3]) < 500 || min(many, none, not) < 400 {
		t.Error("too few scopes of each sort", kinds, many, none, not)
	}
}

// TestDiffsThatDoNotHangOnNumbers asks of scopes that show the same in another way.
func TestDiffsThatDoNotHangOnNumbers(t *testing.T) {
	r := &row{seed: 29}
	good := 0
	for range 600 {
		s := r.someScope()
		if !scopeByForm(s) {
			continue
		}
		good++
		turned := renumberedScope(s, r.shuffled(len(s.Types), 3))
		for _, other := range []impl.Scope{s, turned, r.turnedObjects(s), r.otherwiseHidden(s), r.turnedObjects(r.otherwiseHidden(turned))} {
			if c, _ := checkDiff(t, s, other); len(c) > 0 {
				t.Fatalf("%v shows the same as %v, and not %v", s, other, c)
			}
		}
		plain := withoutHiddenNames(s)
		if c, _ := checkDiff(t, plain, exportOf(t, s)); len(c) > 0 {
			t.Fatalf("%v shows the same as its export, and not %v", plain, c)
		}
		other := r.otherGood(s)
		c, _ := checkDiff(t, s, other)
		if again, ok := checkDiff(t, r.otherwiseHidden(turned), r.turnedObjects(other)); !ok || !slices.Equal(c, again) {
			t.Fatalf("from %v to %v are told %v and %v", s, other, c, again)
		}
	}
	if good < 300 {
		t.Error("too few scopes are good", good)
	}
}

var diffNames = func() []string {
	l := append([]string{"INT", "abcdefghij", "MODULE", "z9"}, seenTexts...)
	for n := range 40 {
		l = append(l, "n"+strconv.Itoa(n))
	}
	sort.Strings(l)
	return slices.Compact(l)
}()

// someChanges tells changes, most of which are good.
func (r *row) someChanges() []impl.Change {
	var c []impl.Change
	of := 1 + r.below(8)
	for _, name := range diffNames {
		if r.below(of) == 0 && (len(c) < 32 || r.below(20) == 0) {
			c = append(c, impl.Change{Name: name, Kind: 1 + r.below(3)})
		}
	}
	if len(c) == 0 || r.below(3) > 0 {
		return c
	}
	n, m := r.below(len(c)), r.below(len(c))
	switch r.below(5) {
	case 0:
		c[n].Name = badNames[r.below(len(badNames))]
	case 1:
		c[n].Kind = []int{-1 << 63, -1, 0, 4, 5, 1 << 32, 1<<63 - 1}[r.below(7)]
	case 2:
		c[n], c[m] = c[m], c[n]
	case 3:
		c[n].Name = c[m].Name
	default:
		c[n].Name = diffNames[r.below(len(diffNames))]
	}
	return c
}

// spoiltDiff tells a text with some bytes in it changed, left out, put in or cut off.
func (r *row) spoiltDiff(s string) string {
	b := []byte(s)
	for range r.below(3) {
		if len(b) == 0 {
			break
		}
		n := r.below(len(b))
		some := []byte{' ', ' ', '+', '-', '!', '*', 'a', 'Z', '5', '\n', '\t', 0, 255, byte(r.below(256))}
		c := some[r.below(len(some))]
		switch r.below(6) {
		case 0:
			b = slices.Delete(b, n, n+1)
		case 1:
			b = slices.Insert(b, n, c)
		case 2:
			b[n] ^= 1 << r.below(8)
		case 3:
			b = b[:n]
		case 4:
			b = append(b, c)
		default:
			b[n] = c
		}
	}
	return string(b)
}

// TestManyChanges holds changes, their texts, made otherwise here and there, and what they touch.
func TestManyChanges(t *testing.T) {
	r := &row{seed: 37}
	good, bad, read, not, touched := 0, 0, 0, 0, 0
	for range 4000 {
		c := r.someChanges()
		for range 3 {
			touched += len(checkTouched(t, r.someSeen(), append(seenTexts, "", "a b")[r.below(12)], c))
		}
		if checkChanges(t, c) {
			good++
		} else {
			bad++
		}
		for range 5 {
			if checkDiffRead(t, r.spoiltDiff(wordsByHand(c))) {
				read++
			} else {
				not++
			}
		}
	}
	t.Log(good, bad, read, not, touched)
	if good < 2000 || bad < 500 || read < 2000 || not < 2000 || touched < 500 {
		t.Error("too few changes of each sort", good, bad, read, not, touched)
	}
}

// TestAllSmallDiffTexts asks of all texts of a few bytes.
func TestAllSmallDiffTexts(t *testing.T) {
	read := 0
	texts := []string{""}
	for range 6 {
		var longer []string
		for _, s := range texts {
			if checkDiffRead(t, s) {
				read++
			}
			for _, c := range "+-! aB7?" {
				longer = append(longer, s+string(c))
			}
		}
		texts = longer
	}
	for c := range 256 {
		one := string([]byte{byte(c)})
		for _, s := range []string{one, one + "a", "+" + one, "+a" + one, "+a" + one + "+b", "+a " + one + "b", "+a +" + one, one + "+a", "+a" + one + "7 -b", "+a +b" + one} {
			if checkDiffRead(t, s) {
				read++
			}
		}
	}
	if read < 500 {
		t.Error("too few texts are read", read)
	}
}

// callDiffs calls each function of the chapter.
func callDiffs(a, b impl.Scope, l []impl.Seen, mod string, c []impl.Change, s string) {
	impl.DiffScopes(a, b)
	impl.IsWider(a, b)
	impl.TouchedBy(l, mod, c)
	impl.DiffText(c)
	impl.ReadDiff(s)
	impl.TurnDiff(c)
}

// TestDiffsAnswerAnything: a panic fails, and so does an argument that is written into.
func TestDiffsAnswerAnything(t *testing.T) {
	r := &row{seed: 53}
	numbers := []int{-1 << 63, -2, -1, 0, 1, 2, 3, 4, 5, 1 << 32, 1<<63 - 1}
	texts := append([]string{"A", "B", "a", "+a", "-a", "+a -b", "!", " ", "\xff\xfe", strings.Repeat("+", 600), strings.Repeat("+a ", 200), strings.Repeat(" ", 5000)}, badNames...)
	text := func() string { return texts[r.below(len(texts))] }
	for range 3000 {
		a, b := r.changed(r.someScope()), r.changedObject(r.someScope())
		if r.below(5) == 0 {
			b = impl.Scope{Name: text(), Types: impl.BaseTypes()[:r.below(4)], Objects: make([]impl.Object, r.below(20))}
		}
		var c []impl.Change
		for range r.below(40) {
			c = append(c, impl.Change{Name: text(), Kind: numbers[r.below(len(numbers))]})
		}
		l := r.someSeen()
		firstScope, secondScope, seen, changes := copyOfScope(a), copyOfScope(b), copyOfSeen(l), slices.Clone(c)
		checkDiff(t, a, b)
		checkChanges(t, c)
		checkTouched(t, l, text(), c)
		checkDiffRead(t, text())
		callDiffs(a, b, l, text(), c, text())
		if !reflect.DeepEqual(a, firstScope) || !reflect.DeepEqual(b, secondScope) || !slices.Equal(l, seen) || !slices.Equal(c, changes) {
			t.Fatalf("%v, %v, %v or %v is written into", firstScope, secondScope, seen, changes)
		}
	}
}
