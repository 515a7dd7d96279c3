package tests

import (
	"reflect"
	"regexp"
	"slices"
	"strings"
	"testing"

	"loop.example/g00837/impl"
)

var openingForm = regexp.MustCompile(`^MODULE '(\w+) ; (?:IMPORT ('\w+(?: , '\w+)*) ; )?`)

// openingByForm tells the name of the module of a text and its imports, where it begins as is asked for.
func openingByForm(text string) (string, []string, bool) {
	tokens, _, _, ok := impl.ReadTokens(text)
	if !ok {
		return "", nil, false
	}
	words := ""
	for _, one := range tokens {
		if one.Kind == impl.TkName {
			words += "'"
		}
		words += one.Text + " "
	}
	parts := openingForm.FindStringSubmatch(words)
	if parts == nil || parts[2] == "" && strings.HasPrefix(words[len(parts[0]):], "IMPORT ") {
		return "", nil, false
	}
	return parts[1], strings.Fields(strings.NewReplacer("'", "", ",", "").Replace(parts[2])), true
}

func goodSourcesByForm(l []impl.Source) bool {
	for i, one := range l {
		_, _, ok := openingByForm(one.Text)
		if i == 8 || !ok || !nameForm.MatchString(one.Name) {
			return false
		}
		if slices.ContainsFunc(l[:i], func(other impl.Source) bool { return other.Name == one.Name }) {
			return false
		}
	}
	return true
}

// wiring has for each source which ones it needs; leads has for each to which ones it leads, on and on.
type wiring [][]bool

func wiringOf(l []impl.Source) wiring {
	w := make(wiring, len(l))
	for n, one := range l {
		_, imports, _ := openingByForm(one.Text)
		for _, other := range l {
			w[n] = append(w[n], slices.Contains(imports, other.Name))
		}
	}
	return w
}

// hanging tells the numbers of those that lead to the one of a number.
func (w wiring) hanging(n int) []int {
	far := w.leads()
	return numbersWhere(len(w), func(m int) bool { return far[m][n] })
}

func (w wiring) leads() wiring {
	far := make(wiring, len(w))
	for n := range w {
		far[n] = slices.Clone(w[n])
	}
	for by := range w {
		for n := range w {
			for m := range w {
				far[n][m] = far[n][m] || far[n][by] && far[by][m]
			}
		}
	}
	return far
}

func (w wiring) needs() [][]int {
	var all [][]int
	for n := range w {
		all = append(all, numbersWhere(len(w), func(m int) bool { return w[n][m] }))
	}
	return all
}

// firstOrder tells the first one of all orders that go on from some and in which each comes behind
// what it needs.
func (w wiring) firstOrder(from []int) ([]int, bool) {
	if len(from) == len(w) {
		return from, true
	}
	for n := range w {
		if slices.Contains(from, n) || slices.ContainsFunc(w.needs()[n], func(m int) bool { return !slices.Contains(from, m) }) {
			continue
		}
		if order, ok := w.firstOrder(append(slices.Clone(from), n)); ok {
			return order, true
		}
	}
	return nil, false
}

// walk tells the first way of so many steps from a number to another one, without that at the end.
func (w wiring) walk(from, to, steps int) ([]int, bool) {
	if steps == 0 {
		return nil, from == to
	}
	for _, n := range w.needs()[from] {
		if rest, ok := w.walk(n, to, steps-1); ok {
			return append([]int{from}, rest...), true
		}
	}
	return nil, false
}

// firstRing tells the first one of the shortest ways of the least number that comes back to itself.
func (w wiring) firstRing() ([]int, bool) {
	far := w.leads()
	for n := range w {
		for steps := 1; far[n][n]; steps++ {
			if ring, ok := w.walk(n, n, steps); ok {
				return ring, true
			}
		}
	}
	return nil, false
}

func numbersWhere(many int, is func(n int) bool) []int {
	var numbers []int
	for n := range many {
		if is(n) {
			numbers = append(numbers, n)
		}
	}
	return numbers
}

// wantNoSources asks for the zero answers of sources that are not good.
func wantNoSources(t *testing.T, l []impl.Source) {
	t.Helper()
	if needs, ok := impl.NeedsIn(l); len(needs) != 0 || ok {
		t.Errorf("NeedsIn(%v) = %v, %v", l, needs, ok)
	}
	if order, ok := impl.OrderOf(l); len(order) != 0 || ok {
		t.Errorf("OrderOf(%v) = %v, %v", l, order, ok)
	}
	if ring, ok := impl.RingOf(l); len(ring) != 0 || ok {
		t.Errorf("RingOf(%v) = %v, %v", l, ring, ok)
	}
	wantNoneHang(t, l, -1, 0, len(l)-1, len(l))
	wantNotBuilt(t, l)
}

func wantNoneHang(t *testing.T, l []impl.Source, numbers ...int) {
	t.Helper()
	for _, n := range numbers {
		if hanging, ok := impl.HangOn(l, n); len(hanging) != 0 || ok {
			t.Errorf("HangOn(%v, %d) = %v, %v", l, n, hanging, ok)
		}
	}
}

// wantNotBuilt asks for the zero answers of BuildAll, and of BuildAnew of whatever number.
func wantNotBuilt(t *testing.T, l []impl.Source) {
	t.Helper()
	if store, codes, ok := impl.BuildAll(l); len(store) != 0 || len(codes) != 0 || ok {
		t.Errorf("BuildAll(%v) = %v, %v, %v", l, store, codes, ok)
	}
	for n := -1; n <= min(len(l), 9); n++ {
		wantNotAnew(t, nil, l, n)
		wantNotAnew(t, numberedStore(2), l, n)
	}
}

func wantNotAnew(t *testing.T, old []impl.Module, l []impl.Source, n int) {
	t.Helper()
	if store, codes, ok := impl.BuildAnew(old, l, n); len(store) != 0 || len(codes) != 0 || ok {
		t.Errorf("BuildAnew(%v, %v, %d) = %v, %v, %v", old, l, n, store, codes, ok)
	}
}

// checkSources asks for all that is told of some sources alone but for what is built of them, and tells
// whether they are good and have an order.
func checkSources(t *testing.T, l []impl.Source) bool {
	t.Helper()
	good := goodSourcesByForm(l)
	if impl.GoodSources(l) != good {
		t.Fatalf("GoodSources(%v) is not %v", l, good)
	}
	if !good {
		wantNoSources(t, l)
		return false
	}
	w := wiringOf(l)
	if needs, ok := impl.NeedsIn(l); !slices.EqualFunc(needs, w.needs(), slices.Equal) || !ok {
		t.Fatalf("NeedsIn(%v) = %v, %v, want %v", l, needs, ok, w.needs())
	}
	for n := range l {
		want := w.hanging(n)
		if got, ok := impl.HangOn(l, n); !slices.Equal(got, want) || !ok {
			t.Fatalf("HangOn(%v, %d) = %v, %v, want %v", l, n, got, ok, want)
		}
	}
	wantNoneHang(t, l, -1, len(l))
	ring, round := w.firstRing()
	if got, ok := impl.RingOf(l); !slices.Equal(got, ring) || ok != round {
		t.Fatalf("RingOf(%v) = %v, %v, want %v, %v", l, got, ok, ring, round)
	}
	var order []int
	if !round {
		order, _ = w.firstOrder(nil)
	}
	got, ok := impl.OrderOf(l)
	if !slices.Equal(got, order) || ok == round {
		t.Fatalf("OrderOf(%v) = %v, %v, want %v, %v", l, got, ok, order, !round)
	}
	if round {
		wantNotBuilt(t, l)
		return false
	}
	wantBehindNeeds(t, l, got)
	return true
}

// wantBehindNeeds asks that each source is in an order once, behind all those that it imports.
func wantBehindNeeds(t *testing.T, l []impl.Source, order []int) {
	t.Helper()
	var names []string
	for _, n := range order {
		imports, _ := impl.ImportsIn(l[n].Text)
		for _, one := range l {
			if slices.Contains(imports, one.Name) && !slices.Contains(names, one.Name) {
				t.Fatalf("by %v %s comes ahead of %s in %v", order, l[n].Name, one.Name, l)
			}
		}
		if slices.Contains(names, l[n].Name) {
			t.Fatalf("%s comes twice by %v", l[n].Name, order)
		}
		names = append(names, l[n].Name)
	}
	if len(names) != len(l) {
		t.Fatalf("%v are not all of %v", order, l)
	}
}

// buildModel is what is told of a store into which sources are put, by the model of the store.
type buildModel struct {
	sources []impl.Source
	store   []impl.Module
	codes   []int
}

func (b *buildModel) put(n int) {
	put := puttingByHand(b.store, b.sources[n].Text)
	if b.codes[n] = put.code; put.code == 0 {
		b.store = put.store
	}
}

// mustPut tells whether a module is not there, or something is no more as it saw it.
func (b *buildModel) mustPut(n int) bool {
	at := numberIn(b.store, b.sources[n].Name)
	if at < 0 {
		return true
	}
	others, _ := modsModelOf(scopesIn(b.store)).others(b.store[at].Seen)
	return len(others) > 0
}

// anewByHand tells what BuildAnew has to tell of a good store and good sources with an order.
func anewByHand(old []impl.Module, l []impl.Source, n int) *buildModel {
	b := &buildModel{l, old, slices.Repeat([]int{-1}, len(l))}
	b.put(n)
	w := wiringOf(l)
	order, _ := w.firstOrder(nil)
	for _, m := range order {
		if slices.Contains(w.hanging(n), m) && b.mustPut(m) {
			b.put(m)
		}
	}
	return b
}

// areCalledSo tells whether each text is that of a module of the name of its source.
func areCalledSo(l []impl.Source) bool {
	return !slices.ContainsFunc(l, func(one impl.Source) bool {
		name, _, _ := openingByForm(one.Text)
		return name != one.Name
	})
}

// wantNotStale asks of sources that are called as their modules that none that was compiled is stale.
func wantNotStale(t *testing.T, l []impl.Source, store []impl.Module, codes []int) {
	t.Helper()
	stale, ok := impl.StaleIn(store)
	if !ok || !impl.GoodStore(store) {
		t.Fatalf("%v are no store", store)
	}
	for n, one := range l {
		if codes[n] == 0 && areCalledSo(l) && (slices.Contains(stale, one.Name) || numberIn(store, one.Name) < 0) {
			t.Fatalf("%s of %v is stale, or not there, behind all of %v", one.Name, store, l)
		}
	}
}

// checkBuilt asks for all that is built of sources from the empty store on, and tells it.
func checkBuilt(t *testing.T, l []impl.Source) ([]impl.Module, []int, bool) {
	t.Helper()
	if !checkSources(t, l) {
		wantNotBuilt(t, l)
		return nil, nil, false
	}
	want := &buildModel{l, nil, make([]int, len(l))}
	order, _ := wiringOf(l).firstOrder(nil)
	for _, n := range order {
		want.put(n)
	}
	store, codes, ok := impl.BuildAll(l)
	if !sameStoreByHand(store, want.store) || !slices.Equal(codes, want.codes) || !ok {
		t.Fatalf("BuildAll(%v) = %v, %v, %v, want %v, %v", l, store, codes, ok, want.store, want.codes)
	}
	wantNotStale(t, l, store, codes)
	if stale, _ := impl.StaleIn(store); areCalledSo(l) && len(stale) > 0 {
		t.Fatalf("behind all of %v %v are stale", l, stale)
	}
	return store, codes, true
}

// checkAnew asks for what is built of a source and what hangs on it, and tells that.
func checkAnew(t *testing.T, old []impl.Module, l []impl.Source, n int) ([]impl.Module, []int, bool) {
	t.Helper()
	if !checkSources(t, l) || !goodStoreByForm(old) || n < 0 || n >= len(l) {
		wantNotAnew(t, old, l, n)
		return nil, nil, false
	}
	want := anewByHand(old, l, n)
	store, codes, ok := impl.BuildAnew(old, l, n)
	if !sameStoreByHand(store, want.store) || !slices.Equal(codes, want.codes) || !ok {
		t.Fatalf("BuildAnew(%v, %v, %d) = %v, %v, %v, want %v, %v", old, l, n, store, codes, ok, want.store, want.codes)
	}
	wantNotStale(t, l, store, codes)
	return store, codes, true
}

// plainSource tells a source of a module that imports what is said and has nothing else.
func plainSource(name string, imports ...string) impl.Source {
	text := "MODULE " + name + "; "
	if len(imports) > 0 {
		text += "IMPORT " + strings.Join(imports, ", ") + "; "
	}
	return impl.Source{Name: name, Text: text + "END " + name + "."}
}

var sourceNames = []string{"A", "B", "C", "D", "E", "F", "G", "H"}

// sourcesBy tells a source for each of some numbers; the one of n needs that of m where it is said so.
func sourcesBy(many int, needs func(n, m int) bool) []impl.Source {
	var l []impl.Source
	for n := range many {
		var imports []string
		for _, m := range numbersWhere(many, func(m int) bool { return needs(n, m) }) {
			imports = append(imports, sourceNames[m])
		}
		l = append(l, plainSource(sourceNames[n], imports...))
	}
	return l
}

// TestAllSmallWirings asks of up to three sources that need each other and themselves in all ways, and
// of four that need each other.
func TestAllSmallWirings(t *testing.T) {
	round, not := 0, 0
	for many := range 4 {
		for bits := range 1 << (many * many) {
			if checkSources(t, sourcesBy(many, func(n, m int) bool { return bits>>(n*many+m)&1 == 1 })) {
				not++
			} else {
				round++
			}
		}
	}
	for bits := range 1 << 12 {
		if checkSources(t, sourcesBy(4, func(n, m int) bool { return n != m && bits>>(n*3+(m+3-n)%4)&1 == 1 })) {
			not++
		} else {
			round++
		}
	}
	// So many ways to have no ring there are, by Robinson's numbers: 1, 1, 3, 25 and 543.
	if not != 1+1+3+25+543 || round != 1+2+16+512+4096-not {
		t.Error(round, not)
	}
}

// someWiring tells plain sources of which each needs few of the others, and hardly ever itself: in a
// ring, most of them, or hardly ever one that comes behind it by some order.
func (r *row) someWiring() []impl.Source {
	many := 1 + r.below(8)
	few := 1 + r.below(10)
	order := r.shuffled(many, 0)
	sort := r.below(3)
	return sourcesBy(many, func(n, m int) bool {
		switch {
		case n == m:
			return r.below(60) == 0
		case sort == 0 && (order[n]+1)%many == order[m]:
			return r.below(20) > 0
		case sort == 0:
			return r.below(4*many) == 0
		case sort == 1 && order[n] < order[m]:
			return r.below(40) == 0
		}
		return r.below(few) == 0
	})
}

// TestManyWirings makes sources that need each other, with a ring and without one, and builds them.
func TestManyWirings(t *testing.T) {
	r := &row{seed: 61}
	sizes := map[int]int{}
	for range 3000 {
		l := r.someWiring()
		ring, round := impl.RingOf(l)
		switch {
		case !checkSources(t, l):
			if sizes[len(ring)]++; !round {
				t.Fatalf("no order and no ring of %v", l)
			}
		case r.below(5) == 0:
			sizes[0]++
			n := r.below(len(l))
			store, codes, _ := checkBuilt(t, l)
			wantBuiltAlike(t, store, codes, l)
			checkAnew(t, store, l, n)
			checkAnew(t, store[:r.below(len(store)+1)], l, n)
			checkAnew(t, nil, l, n)
		}
	}
	t.Log(sizes)
	if min(sizes[0], sizes[1], sizes[2], sizes[3]) < 100 || min(sizes[4], sizes[5], sizes[6], sizes[7], sizes[8]) < 20 {
		t.Error("too few sources of each sort", sizes)
	}
}

// wantBuiltAlike asks that plain sources were all compiled unless they import too many, or what was not.
func wantBuiltAlike(t *testing.T, store []impl.Module, codes []int, l []impl.Source) {
	t.Helper()
	order, _ := impl.OrderOf(l)
	for i, n := range order {
		imports, _ := impl.ImportsIn(l[n].Text)
		missing := slices.ContainsFunc(order[:i], func(m int) bool { return codes[m] != 0 && slices.Contains(imports, l[m].Name) })
		is := numberIn(store, l[n].Name) >= 0
		if is != (codes[n] == 0) || is && (missing || len(imports) > impl.MaxImports) || !is && !missing && len(imports) <= impl.MaxImports {
			t.Fatalf("of %v is built %v, %v", l, store, codes)
		}
	}
}

// someSources writes modules of which each may import from those that were written ahead of it, and
// tells them in another order; now and then there is a ring.
func (g *scribe) someSources() []impl.Source {
	var l []impl.Source
	var store []impl.Module
	names := append([]string{}, sourceNames...)
	for range 2 + g.below(7) {
		n := g.below(len(names))
		name := names[n]
		names = slices.Delete(names, n, n+1)
		text := g.module(name, scopesIn(store))
		for try := 0; try < 8; try++ {
			next, code, _, _ := impl.PutModule(store, text)
			if code == 0 && len(next[len(next)-1].Scope.Types) < 14 {
				store = next
				break
			}
			text = g.module(name, scopesIn(store))
		}
		if g.below(12) == 0 {
			text = g.spoilt(text)
		}
		l = append(l, impl.Source{Name: name, Text: text})
	}
	if g.below(8) == 0 {
		n := g.below(len(l))
		l[n].Text = g.module(l[n].Name, scopesIn(store))
	}
	if g.below(12) == 0 {
		l[g.below(len(l))].Name = g.one("A", "B", "C", "Other", "INT")
	}
	var turned []impl.Source
	for _, n := range g.shuffled(len(l), 0) {
		turned = append(turned, l[n])
	}
	return turned
}

// otherText tells the text of a source that is otherwise, or hardly so.
func (g *scribe) otherText(one impl.Source, store []impl.Module) string {
	switch g.below(6) {
	case 0:
		if len(store) > 0 {
			return g.goneOn(one.Text, scopesIn(store))
		}
	case 1:
		return g.spoilt(one.Text)
	case 2:
		return g.module(one.Name, scopesIn(store))
	case 3:
		return one.Text
	}
	return g.otherHere(one.Text)
}

// wantAsAll asks of a store that was built of sources from the front, and then of one of them that is
// otherwise, that just those are stale that could not be compiled, and, where all could be, that all is
// as if it were built from the front.
func wantAsAll(t *testing.T, l []impl.Source, store []impl.Module, codes []int) {
	t.Helper()
	stale, _ := impl.StaleIn(store)
	for _, name := range stale {
		if n := slices.IndexFunc(l, func(one impl.Source) bool { return one.Name == name }); n < 0 || codes[n] <= 0 {
			t.Fatalf("of %v %s is stale in %v: %v", l, name, store, codes)
		}
	}
	all, allCodes, _ := impl.BuildAll(l)
	if slices.Max(allCodes) > 0 {
		return
	}
	for _, one := range all {
		n := numberIn(store, one.Scope.Name)
		if alike, ok := impl.AlikeScopes(store[n].Scope, one.Scope); !alike || !ok || !slices.Equal(store[n].Seen, one.Seen) {
			t.Fatalf("of %v %s is %v, and built anew %v", l, one.Scope.Name, one, store[n])
		}
	}
}

// TestBuildsThatGoOn writes sources, builds them, and builds anew what is otherwise by then.
func TestBuildsThatGoOn(t *testing.T) {
	g := &scribe{row: &row{seed: 67}}
	counts := map[string]int{}
	for range 200 {
		l := g.someSources()
		store, codes, ok := checkBuilt(t, l)
		if !ok {
			counts["not built"]++
			continue
		}
		counts["faults"] += len(slices.DeleteFunc(slices.Clone(codes), func(code int) bool { return code == 0 }))
		for range 7 {
			n := g.below(len(l))
			// Rather one on which something hangs.
			for try := 0; try < 3 && len(wiringOf(l).hanging(n)) == 0; try++ {
				n = g.below(len(l))
			}
			now := slices.Clone(l)
			now[n].Text = g.otherText(l[n], store)
			next, codes, ok := checkAnew(t, store, now, n)
			if !ok {
				counts["not anew"]++
				continue
			}
			for m, code := range codes {
				switch {
				case code == -1:
					counts["not put"]++
				case m != n && code == 0:
					counts["put behind"]++
				case m != n:
					counts["fault behind"]++
				}
			}
			if areCalledSo(l) && len(store) == len(l) {
				counts["as all"]++
				wantAsAll(t, now, next, codes)
			}
			// A store in which one is stale that could not be compiled does not go on.
			if stale, _ := impl.StaleIn(next); len(stale) == 0 && codes[n] == 0 {
				l, store = now, next
			}
		}
	}
	t.Log(counts)
	for what, least := range map[string]int{"not built": 20, "faults": 50, "not anew": 50, "not put": 500, "put behind": 80, "fault behind": 50, "as all": 500} {
		if counts[what] < least {
			t.Errorf("%s came %d times", what, counts[what])
		}
	}
}

// TestAnewOfStoresOfAllSorts builds sources anew in stores that know nothing of them.
func TestAnewOfStoresOfAllSorts(t *testing.T) {
	g := &scribe{row: &row{seed: 71}}
	counts := map[int]int{}
	for range 200 {
		l := g.someSources()
		old := g.someStore()
		if g.below(4) == 0 {
			old = numberedStore(5 + g.below(5))
		}
		for n := -1; n <= len(l); n++ {
			_, codes, _ := checkAnew(t, old, l, n)
			for _, code := range codes {
				counts[code]++
			}
		}
	}
	t.Log(counts)
	if min(counts[-1], counts[0], counts[30], counts[35], counts[40]) < 20 {
		t.Error("too few codes of each sort", counts)
	}
}

// callOrder calls each function of the chapter.
func callOrder(old []impl.Module, l []impl.Source, n int) {
	impl.GoodSources(l)
	impl.NeedsIn(l)
	impl.OrderOf(l)
	impl.RingOf(l)
	impl.HangOn(l, n)
	impl.BuildAll(l)
	impl.BuildAnew(old, l, n)
}

// TestOrdersAnswerAnything: a panic fails, and so does an argument that is written into.
func TestOrdersAnswerAnything(t *testing.T) {
	g := &scribe{row: &row{seed: 73}}
	numbers := append([]int{-2, -1, 0, 1, 2, 3, 4, 5, 6, 7, 8, 9}, farNumbers...)
	texts := append([]string{"", "?", "\xff\xfe", "(*", "MODULE", "MODULE A; IMPORT", "MODULE A; IMPORT B;", strings.Repeat("(", 300), strings.Repeat("x", 5000), textOfA, textOfB, textOfC}, takingTexts...)
	good := 0
	for range 500 {
		l := g.someSources()
		for range g.below(4) {
			one := &l[g.below(len(l))]
			switch g.below(4) {
			case 0:
				one.Name = g.one(append([]string{"A", "B", "C", "a", "Other"}, badNames...)...)
			case 1:
				one.Text = g.one(texts...)
			case 2:
				one.Text = g.spoilt(one.Text + " x")
			default:
				l = append(l, impl.Source{Name: g.one("A", "B", "Other"), Text: g.one(texts...)})
			}
		}
		old := g.someStore()
		sources, store := slices.Clone(l), copyOfStore(old)
		if checkSources(t, l) {
			good++
			checkBuilt(t, l)
		}
		n := numbers[g.below(len(numbers))]
		checkAnew(t, old, l, n)
		callOrder(old, l, n)
		if !slices.Equal(l, sources) || !reflect.DeepEqual(old, store) {
			t.Fatalf("%v or %v is written into", sources, store)
		}
	}
	if good < 50 || good > 450 {
		t.Error("too few sources of each sort", good)
	}
}
