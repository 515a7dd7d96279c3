package tests

import (
	"reflect"
	"slices"
	"strings"
	"testing"

	"loop.example/g00837/impl"
)

// goodStoreByForm asks each module against all others.
func goodStoreByForm(l []impl.Module) bool {
	for i, one := range l {
		if i == 8 || !isExportByForm(one.Scope) || !goodSeenByForm(one.Seen) || numberIn(l[:i], one.Scope.Name) >= 0 {
			return false
		}
	}
	return true
}

// numberIn tells the number of the module of a name: -1, where none is so called.
func numberIn(l []impl.Module, name string) int {
	return slices.IndexFunc(l, func(m impl.Module) bool { return m.Scope.Name == name })
}

func scopesIn(l []impl.Module) []impl.Scope {
	var mods []impl.Scope
	for _, one := range l {
		mods = append(mods, one.Scope)
	}
	return mods
}

// copyOfStore tells the same modules; their lists, but not their texts, are in memory of their own.
func copyOfStore(l []impl.Module) []impl.Module {
	l = slices.Clone(l)
	for i, one := range l {
		l[i] = impl.Module{Scope: copyOfScope(one.Scope), Seen: copyOfSeen(one.Seen)}
	}
	return l
}

// sameStoreByHand compares without the program; an empty list and none are the same.
func sameStoreByHand(a, b []impl.Module) bool {
	return slices.EqualFunc(a, b, func(one, other impl.Module) bool {
		return sameByHand(one.Scope, other.Scope) && slices.Equal(one.Seen, other.Seen)
	})
}

// laidByHand tells a store with a module in the place of the one that is so called, or behind all.
func laidByHand(l []impl.Module, m impl.Module) ([]impl.Module, int) {
	n := numberIn(l, m.Scope.Name)
	switch {
	case n >= 0:
		return slices.Concat(l[:n], []impl.Module{m}, l[n+1:]), 0
	case len(l) == 8:
		return nil, 40
	}
	return slices.Concat(l, []impl.Module{m}), 0
}

// putModel is what is told of a store into which a module is put, and how that is called.
type putModel struct {
	store    []impl.Module
	code, at int
	name     string
}

// puttingByHand tells what PutModule has to tell of a good store, by the models of the chapters ahead.
func puttingByHand(l []impl.Module, text string) putModel {
	mods := scopesIn(l)
	s, code, at, ok := compileByWalk(text, mods)
	if !ok {
		return putModel{nil, code, at, ""}
	}
	seen, _ := modsModelOf(mods).seen(s)
	store, code := laidByHand(l, impl.Module{Scope: exportByStack(s), Seen: seen})
	return putModel{store, code, 0, s.Name}
}

func filingByHand(l []impl.Module, b string) putModel {
	s, code, at := readByForm(b)
	if code != 0 {
		return putModel{nil, code, at, ""}
	}
	store, code := laidByHand(l, impl.Module{Scope: s})
	return putModel{store, code, 0, s.Name}
}

// wantNoStore asks for the zero answers of modules that are no store.
func wantNoStore(t *testing.T, l []impl.Module) {
	t.Helper()
	if mods, ok := impl.ModsOf(l); len(mods) != 0 || ok {
		t.Errorf("ModsOf(%v) = %v, %v", l, mods, ok)
	}
	if names, ok := impl.StaleIn(l); len(names) != 0 || ok {
		t.Errorf("StaleIn(%v) = %v, %v", l, names, ok)
	}
	for _, text := range []string{"MODULE New; END New.", "MODULE A; END A.", "MODULE", "?"} {
		if got, code, at, ok := impl.PutModule(l, text); len(got) != 0 || code != 0 || at != 0 || ok {
			t.Errorf("PutModule(%v, %q) = %v, %d, %d, %v", l, text, got, code, at, ok)
		}
	}
	for _, b := range []string{fileByHand(ringScope()), "OS1\x01A\x00\x00\x01\x15", "OS1", "", strings.Repeat("x", 3001)} {
		if got, code, at, ok := impl.PutFile(l, b); len(got) != 0 || code != 0 || at != 0 || ok {
			t.Errorf("PutFile(%v, %q) = %v, %d, %d, %v", l, b, got, code, at, ok)
		}
	}
	wantNoneCalled(t, l, "A", "Zz", "")
	for _, one := range l[:min(len(l), 10)] {
		wantNoneCalled(t, l, one.Scope.Name)
	}
}

// wantNoneCalled asks for the zero answers of names that no module of a store has.
func wantNoneCalled(t *testing.T, l []impl.Module, names ...string) {
	t.Helper()
	for _, name := range names {
		if uses, ok := impl.WhyStale(l, name); len(uses) != 0 || ok {
			t.Errorf("WhyStale(%v, %q) = %v, %v", l, name, uses, ok)
		}
		if got, ok := impl.DropModule(l, name); len(got) != 0 || ok {
			t.Errorf("DropModule(%v, %q) = %v, %v", l, name, got, ok)
		}
	}
}

// checkStore asks for all that is told of some modules alone, and tells whether they are a store.
func checkStore(t *testing.T, l []impl.Module) bool {
	t.Helper()
	good := goodStoreByForm(l)
	if impl.GoodStore(l) != good {
		t.Fatalf("GoodStore(%v) is not %v", l, good)
	}
	if !impl.SameStore(l, copyOfStore(l)) {
		t.Fatalf("%v is not the same as itself", l)
	}
	if !good {
		wantNoStore(t, l)
		return false
	}
	mods, ok := impl.ModsOf(l)
	if !slices.EqualFunc(mods, scopesIn(l), sameByHand) || !ok {
		t.Fatalf("ModsOf(%v) = %v, %v", l, mods, ok)
	}
	checkStale(t, l)
	for n, one := range l {
		want := slices.Concat(l[:n], l[n+1:])
		if got, ok := impl.DropModule(l, one.Scope.Name); !sameStoreByHand(got, want) || !ok || !impl.GoodStore(got) {
			t.Fatalf("DropModule(%v, %q) = %v, %v", l, one.Scope.Name, got, ok)
		}
	}
	wantNoneCalled(t, l, "none", "", "a b")
	return true
}

// checkStale asks of each module of a store what is no more as it saw it, and for the names of those of
// which something is not.
func checkStale(t *testing.T, l []impl.Module) {
	t.Helper()
	m := modsModelOf(scopesIn(l))
	var stale []string
	for _, one := range l {
		name := one.Scope.Name
		want, _ := m.others(one.Seen)
		if got, ok := impl.WhyStale(l, name); !slices.Equal(got, want) || !ok {
			t.Fatalf("WhyStale(%v, %q) = %v, %v, want %v", l, name, got, ok, want)
		}
		if len(want) > 0 {
			stale = append(stale, name)
		}
	}
	wantStale(t, l, stale...)
}

func wantStale(t *testing.T, l []impl.Module, names ...string) {
	t.Helper()
	if got, ok := impl.StaleIn(l); !slices.Equal(got, names) || !ok {
		t.Errorf("StaleIn(%v) = %v, %v, want %v", l, got, ok, names)
	}
}

// checkPut asks for what PutModule tells of a store and a text, and for promise 11.
func checkPut(t *testing.T, l []impl.Module, text string) ([]impl.Module, int) {
	t.Helper()
	want := puttingByHand(l, text)
	got, code, at, ok := impl.PutModule(l, text)
	if !sameStoreByHand(got, want.store) || code != want.code || at != want.at || ok != (code == 0) {
		t.Fatalf("PutModule(%v, %q) = %v, %d, %d, %v, want %v", l, text, got, code, at, ok, want)
	}
	wantStanding(t, l, got, want)
	return got, code
}

// checkFile asks for what PutFile tells of a store and some bytes, and for promise 11.
func checkFile(t *testing.T, l []impl.Module, b string) ([]impl.Module, int) {
	t.Helper()
	want := filingByHand(l, b)
	got, code, at, ok := impl.PutFile(l, b)
	if !sameStoreByHand(got, want.store) || code != want.code || at != want.at || ok != (code == 0) {
		t.Fatalf("PutFile(%v, %q) = %v, %d, %d, %v, want %v", l, b, got, code, at, ok, want)
	}
	wantStanding(t, l, got, want)
	return got, code
}

// wantStanding asks that a module that was put is in the store, and is not stale then, and that all
// others are there as they were, in order.
func wantStanding(t *testing.T, before, now []impl.Module, put putModel) {
	t.Helper()
	if put.code != 0 {
		return
	}
	n := numberIn(now, put.name)
	stale, ok := impl.StaleIn(now)
	if n < 0 || !ok || !impl.GoodStore(now) || slices.Contains(stale, put.name) {
		t.Fatalf("%s was put into %v: %v, of which are stale %v", put.name, before, now, stale)
	}
	others := func(l []impl.Module) []impl.Module {
		return slices.DeleteFunc(slices.Clone(l), func(m impl.Module) bool { return m.Scope.Name == put.name })
	}
	if was := numberIn(before, put.name); !sameStoreByHand(others(now), others(before)) || was >= 0 && was != n || was < 0 && n != len(before) {
		t.Fatalf("%s was put into %v: %v", put.name, before, now)
	}
}

// sight is what a module uses of others, and these as they were when it was put.
type sight struct {
	uses []impl.Use
	mods []impl.Scope
}

// others tells what of a sight is otherwise by now, object by object, without a finger.
func (one sight) others(mods []impl.Scope) []impl.Use {
	var l []impl.Use
	for _, use := range one.uses {
		was, n := objectShown(one.mods, use)
		is, m := objectShown(mods, use)
		if m < 0 || !alikeByForm(was.Objects[n], is.Objects[m], allAlike(was.Types, is.Types)) {
			l = append(l, use)
		}
	}
	return l
}

// objectShown tells the module that shows what is used, and the number of it there, or -1.
func objectShown(mods []impl.Scope, use impl.Use) (impl.Scope, int) {
	for _, m := range mods {
		if m.Name == use.Mod {
			return m, slices.IndexFunc(m.Objects, func(o impl.Object) bool { return o.Name == use.Name })
		}
	}
	return impl.Scope{}, -1
}

// storeHistory is a store that goes on and on, with what each module of it saw, and its text.
type storeHistory struct {
	*scribe
	store  []impl.Module
	saw    map[string]sight
	texts  map[string]string
	counts map[string]int
}

// oneText tells a text that is new, or one that is there already, a little or not at all otherwise.
func (h *storeHistory) oneText() string {
	mods := scopesIn(h.store)
	name := h.one("A", "B", "C", "D", "E", "F", "G", "H", "I", "J")
	old := h.texts[name]
	if old == "" || len(mods) == 0 || h.below(4) == 0 {
		return h.module(name, mods)
	}
	switch h.below(5) {
	case 0:
		return h.goneOn(old, mods)
	case 1:
		return h.spoilt(old)
	case 2:
		return old
	}
	return h.otherHere(old)
}

// step puts a text or a file, or takes a module away, as it comes.
func (h *storeHistory) step(t *testing.T) {
	t.Helper()
	switch choice := h.below(20); {
	case choice == 0 && len(h.store) > 0:
		h.drop(t)
	case choice < 3 && len(h.store) > 0:
		h.file(t)
	default:
		h.put(t, h.oneText())
	}
}

func (h *storeHistory) put(t *testing.T, text string) {
	t.Helper()
	mods := scopesIn(h.store)
	got, code := checkPut(t, h.store, text)
	h.countOf(code)
	if code != 0 {
		return
	}
	s, _, _, _ := impl.Compile(text, mods)
	// Else hardly any module could take something from many others.
	if n := numberIn(got, s.Name); len(got[n].Scope.Types) >= 14 {
		return
	}
	h.store = got
	h.saw[s.Name], h.texts[s.Name] = sight{s.Uses, mods}, strings.Join(strings.Fields(text), " ")
}

// file puts the bytes of a module of the store, mostly called otherwise or with a value changed.
func (h *storeHistory) file(t *testing.T) {
	t.Helper()
	s := copyOfScope(h.store[h.below(len(h.store))].Scope)
	if h.below(2) == 0 {
		s.Name = h.one("A", "B", "C", "D", "E", "F", "G", "H", "I", "J")
	}
	if n := len(s.Objects); n > 0 && h.below(2) == 0 {
		if o := &s.Objects[h.below(n)]; o.Kind == impl.ObConst {
			o.Value++
		}
	}
	b := fileByHand(s)
	if h.below(4) == 0 {
		b = h.row.spoilt(b)
	}
	got, code := checkFile(t, h.store, b)
	h.countOf(code)
	if code != 0 {
		return
	}
	name, _ := impl.SkipName(b)
	h.store, h.saw[name] = got, sight{}
	delete(h.texts, name)
}

func (h *storeHistory) drop(t *testing.T) {
	t.Helper()
	name := h.store[h.below(len(h.store))].Scope.Name
	got, ok := impl.DropModule(h.store, name)
	if !ok || numberIn(got, name) >= 0 {
		t.Fatalf("DropModule(%v, %q) = %v, %v", h.store, name, got, ok)
	}
	h.store = got
	h.counts["dropped"]++
}

func (h *storeHistory) countOf(code int) {
	switch code {
	case 0:
		h.counts["put"]++
	case 40:
		h.counts["full"]++
	default:
		h.counts["fault"]++
	}
}

// wantSightsTold asks of each module whether it is stale just where something that it saw is otherwise.
func (h *storeHistory) wantSightsTold(t *testing.T) {
	t.Helper()
	mods := scopesIn(h.store)
	stale, _ := impl.StaleIn(h.store)
	for _, one := range h.store {
		name := one.Scope.Name
		want := h.saw[name].others(mods)
		if got, _ := impl.WhyStale(h.store, name); !slices.Equal(got, want) || slices.Contains(stale, name) != (len(want) > 0) {
			t.Fatalf("of %q in %v %v is otherwise, and %v is told (stale: %v)", name, h.store, want, got, stale)
		}
		switch {
		case len(want) > 0:
			h.counts["stale"]++
		case len(one.Seen) > 0:
			h.counts["fresh"]++
		}
	}
}

// TestStoresThatGoOn lets stores go on for long: promise 11 is asked for behind each step.
func TestStoresThatGoOn(t *testing.T) {
	counts := map[string]int{}
	for seed := range 4 {
		h := &storeHistory{scribe: &scribe{row: &row{seed: uint64(70 + seed)}}, saw: map[string]sight{}, texts: map[string]string{}, counts: counts}
		for range 300 {
			h.step(t)
			if !checkStore(t, h.store) {
				t.Fatalf("%v is no store", h.store)
			}
			h.wantSightsTold(t)
		}
	}
	t.Log(counts)
	for what, least := range map[string]int{"put": 300, "full": 20, "fault": 100, "dropped": 20, "stale": 500, "fresh": 500} {
		if counts[what] < least {
			t.Errorf("%s came %d times", what, counts[what])
		}
	}
}

// someStore tells modules made without a text, most of which are a store.
func (r *row) someStore() []impl.Module {
	var l []impl.Module
	mods := r.someMods()
	if r.below(4) == 0 {
		for n, name := range []string{"F", "G", "H", "I"} {
			mods = append(mods, copyOfScope(mods[n%len(mods)]))
			mods[len(mods)-1].Name = name
		}
	}
	m := modsModelOf(mods)
	for _, one := range mods {
		seen, _ := m.seen(r.someClient(mods))
		if r.below(5) == 0 {
			seen = r.someSeen()
		}
		if len(seen) > 0 && r.below(4) == 0 {
			seen[r.below(len(seen))].Sum ^= 1 << r.below(62)
		}
		if r.below(30) == 0 {
			one = r.changed(one)
		}
		l = append(l, impl.Module{Scope: one, Seen: seen})
	}
	return l
}

// TestManyStores makes stores, good and not, and holds each against changed ones.
func TestManyStores(t *testing.T) {
	r := &row{seed: 41}
	good, not, full := 0, 0, 0
	for range 1500 {
		l := r.someStore()
		if !checkStore(t, l) {
			not++
		} else if good++; len(l) == 8 {
			full++
		}
		other := copyOfStore(l)
		n := r.below(len(other))
		switch one := &other[n]; r.below(5) {
		case 0:
			one.Scope = r.changedObject(one.Scope)
		case 1:
			one.Scope = r.changed(one.Scope)
		case 2:
			other[0], other[n] = other[n], other[0]
		case 3:
			one.Seen = r.someSeen()
		default:
			other = slices.Delete(other, n, n+1)
		}
		want := sameStoreByHand(l, other)
		if impl.SameStore(l, other) != want || impl.SameStore(other, l) != want {
			t.Fatalf("SameStore(%v, %v) is not %v", l, other, want)
		}
		checkStore(t, other)
	}
	t.Log(good, not, full)
	if good < 500 || not < 100 || full < 50 {
		t.Error("too few stores of each sort", good, not, full)
	}
}

// callStore calls each function of the chapter.
func callStore(l []impl.Module, text, b, name string) {
	impl.GoodStore(l)
	impl.ModsOf(l)
	impl.PutModule(l, text)
	impl.PutFile(l, b)
	impl.StaleIn(l)
	impl.WhyStale(l, name)
	impl.DropModule(l, name)
	impl.SameStore(l, l)
}

// TestStoresAnswerAnything: a panic fails, and so does an argument that is written into.
func TestStoresAnswerAnything(t *testing.T) {
	r := &row{seed: 91}
	texts := append([]string{"", "?", "\xff\xfe", "(*", strings.Repeat("(", 300), strings.Repeat("x", 5000), textOfA, textOfB, textOfC}, takingTexts...)
	files := []string{"", "OS1", "OS1\x01A", "\xff", strings.Repeat("\x00", 4000), fileByHand(ringScope()), fileByHand(exportOfFull())}
	names := append([]string{"A", "B", "M", "N", "a", "Zz"}, badNames...)
	for range 1000 {
		var l []impl.Module
		for range r.below(11) {
			one := impl.Module{Scope: r.someScope(), Seen: r.someSeen()}
			if scopeByForm(one.Scope) && r.below(10) > 0 {
				one.Scope = exportByStack(one.Scope)
				one.Scope.Name = seenTexts[r.below(len(seenTexts))]
			}
			l = append(l, one)
		}
		before := copyOfStore(l)
		text := texts[r.below(len(texts))]
		b := files[r.below(len(files))]
		if r.below(2) == 0 && len(b) > 2 {
			b = r.spoilt(b)
		}
		if checkStore(t, l) {
			checkPut(t, l, text)
			checkFile(t, l, b)
		}
		callStore(l, text, b, names[r.below(len(names))])
		if !reflect.DeepEqual(l, before) {
			t.Fatalf("%v is written into", before)
		}
	}
}
