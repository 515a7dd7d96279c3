package tests

import (
	"encoding/binary"
	"math/big"
	"slices"
	"strings"
	"testing"

	"loop.example/g00837/impl"
)

// goodSeenByForm asks each thing that was seen against all others.
func goodSeenByForm(l []impl.Seen) bool {
	if len(l) > 40 {
		return false
	}
	for i, one := range l {
		if !nameForm.MatchString(one.Mod) || !nameForm.MatchString(one.Name) || one.Sum < 0 {
			return false
		}
		for _, other := range l[:i] {
			if one.Mod == other.Mod && one.Name == other.Name {
				return false
			}
		}
	}
	return true
}

// modsModel tells the numbers of what good modules show, each when it is asked for.
type modsModel struct {
	good  bool
	mods  []impl.Scope
	backs []backModel
}

func modsModelOf(mods []impl.Scope) modsModel {
	m := modsModel{good: len(mods) <= 8, mods: mods}
	for i, one := range mods {
		m.good = m.good && isExportByForm(one) && !slices.ContainsFunc(mods[:i], func(s impl.Scope) bool { return s.Name == one.Name })
		m.backs = append(m.backs, backOf(one.Types))
	}
	return m
}

// sum tells the number of an object that a module shows: -1, where none is so called.
func (m modsModel) sum(mod, name string) int {
	for i, one := range m.mods {
		for _, o := range one.Objects {
			if one.Name == mod && o.Name == name && o.Mark != 0 {
				return m.backs[i].object(o)
			}
		}
	}
	return -1
}

func (m modsModel) seen(client impl.Scope) ([]impl.Seen, bool) {
	if !m.good || !scopeByForm(client) {
		return nil, false
	}
	var l []impl.Seen
	for _, use := range client.Uses {
		sum := m.sum(use.Mod, use.Name)
		if sum < 0 {
			return nil, false
		}
		l = append(l, impl.Seen{Mod: use.Mod, Name: use.Name, Sum: sum})
	}
	return l, true
}

func (m modsModel) others(l []impl.Seen) ([]impl.Use, bool) {
	if !m.good || !goodSeenByForm(l) {
		return nil, false
	}
	var others []impl.Use
	for _, one := range l {
		if m.sum(one.Mod, one.Name) != one.Sum {
			others = append(others, impl.Use{Mod: one.Mod, Name: one.Name})
		}
	}
	return others, true
}

// seenByHand tells the bytes of what was seen, the sums by dividing them.
func seenByHand(l []impl.Seen) string {
	b := numberByHand(len(l))
	for _, one := range l {
		sum := string(big.NewInt(int64(one.Sum)).FillBytes(make([]byte, 8)))
		b += textByHand(one.Mod) + textByHand(one.Name) + sum
	}
	return b
}

// seenInBytes cuts bytes into what they are of, and asks whether they are the bytes of that.
func seenInBytes(b string) ([]impl.Seen, bool) {
	many, long := numberAtFront(b)
	if long == 0 || many < 0 || many > 40 || len(b) > 3000 {
		return nil, false
	}
	rest := b[long:]
	var l []impl.Seen
	for range many {
		var names []string
		for range 2 {
			name, long := valueAt("name", rest)
			if long == 0 {
				return nil, false
			}
			names, rest = append(names, name.(string)), rest[long:]
		}
		if len(rest) < 8 || rest[0] > 127 {
			return nil, false
		}
		sum := binary.BigEndian.Uint64([]byte(rest[:8]))
		l, rest = append(l, impl.Seen{Mod: names[0], Name: names[1], Sum: int(sum)}), rest[8:]
	}
	return l, rest == "" && goodSeenByForm(l)
}

// checkSeenList asks for all that is told of a list alone, and tells whether it is good.
func checkSeenList(t *testing.T, l []impl.Seen) bool {
	t.Helper()
	good := goodSeenByForm(l)
	if impl.GoodSeen(l) != good {
		t.Fatalf("GoodSeen(%v) is not %v", l, good)
	}
	want := ""
	if good {
		want = seenByHand(l)
	}
	if b, ok := impl.SeenBytes(l); b != want || ok != good {
		t.Fatalf("SeenBytes(%v) = %q, %v, want %q", l, b, ok, want)
	}
	if good {
		if again, ok := impl.ReadSeen(want); !slices.Equal(again, l) || !ok {
			t.Fatalf("ReadSeen(%q) = %v, %v, want %v", want, again, ok, l)
		}
	}
	return good
}

// checkSeenRead asks for what ReadSeen tells of any bytes, and tells whether there are such.
func checkSeenRead(t *testing.T, b string) bool {
	t.Helper()
	want, good := seenInBytes(b)
	if !good {
		want = nil
	}
	got, ok := impl.ReadSeen(b)
	if !slices.Equal(got, want) || ok != good {
		t.Fatalf("ReadSeen(%q) = %v, %v, want %v, %v", b, got, ok, want, good)
	}
	if !ok {
		return false
	}
	if again, ok := impl.SeenBytes(got); again != b || !ok {
		t.Fatalf("SeenBytes(%v) = %q, %v, want %q", got, again, ok, b)
	}
	return true
}

// checkCheck asks for what is otherwise by some modules, and tells it.
func checkCheck(t *testing.T, l []impl.Seen, m modsModel) []impl.Use {
	t.Helper()
	want, good := m.others(l)
	got, ok := impl.CheckSeen(l, m.mods)
	if !slices.Equal(got, want) || ok != good {
		t.Fatalf("CheckSeen(%v, %v) = %v, %v, want %v, %v", l, m.mods, got, ok, want, good)
	}
	if must, ok := impl.MustCompile(l, m.mods); must != (len(want) > 0) || ok != good {
		t.Fatalf("MustCompile(%v, %v) = %v, %v, want %v, %v", l, m.mods, must, ok, want, good)
	}
	return want
}

// checkUses asks for the names that a scope uses of each module, and of some that it uses nothing of.
func checkUses(t *testing.T, s impl.Scope) {
	t.Helper()
	good := scopeByForm(s)
	for _, mod := range append([]string{s.Name, "A", "B", "Zz", "", "a b", "abcdefghijk"}, s.Imports...) {
		var want []string
		told := good && nameForm.MatchString(mod)
		for _, use := range s.Uses {
			if told && use.Mod == mod {
				want = append(want, use.Name)
			}
		}
		if got, ok := impl.UsesOf(s, mod); !slices.Equal(got, want) || ok != told {
			t.Fatalf("UsesOf(%v, %q) = %v, %v, want %v, %v", s, mod, got, ok, want, told)
		}
	}
}

// checkSeen asks for what a client saw of modules, and tells it, where it is told.
func checkSeen(t *testing.T, client impl.Scope, m modsModel) ([]impl.Seen, bool) {
	t.Helper()
	checkUses(t, client)
	want, good := m.seen(client)
	got, ok := impl.SeenIn(client, m.mods)
	if !slices.Equal(got, want) || ok != good {
		t.Fatalf("SeenIn(%v, %v) = %v, %v, want %v, %v", client, m.mods, got, ok, want, good)
	}
	if !good {
		return nil, false
	}
	if !checkSeenList(t, want) || len(checkCheck(t, want, m)) > 0 {
		t.Fatalf("what %v saw is not good, or otherwise at once", client)
	}
	return want, true
}

// wantToldTheSame asks for promise 9 of a client that has compiled against other modules: these take it
// again, it uses the same, and tells the same to others.
func wantToldTheSame(t *testing.T, text string, was impl.Scope, seen []impl.Seen, m modsModel) {
	t.Helper()
	now, code, at, ok := impl.Compile(text, m.mods)
	if !ok {
		t.Fatalf("nothing that %q used is otherwise, and Compile tells %d at %d by %v", text, code, at, m.mods)
	}
	if alike, ok := impl.AlikeScopes(exportOf(t, was), exportOf(t, now)); !alike || !ok {
		t.Fatalf("%q told %v and tells %v", text, was, now)
	}
	if again, _ := checkSeen(t, now, m); !slices.Equal(again, seen) {
		t.Fatalf("%q saw %v and sees %v", text, seen, again)
	}
}

// standing is a client as it was compiled last.
type standing struct {
	text  string
	scope impl.Scope
	seen  []impl.Seen
	mods  []impl.Scope
}

// areOthers tells whether one of the imports of a client is otherwise than it was.
func (one standing) areOthers(mods []impl.Scope) bool {
	for _, m := range append(one.mods, mods...) {
		if slices.Contains(one.scope.Imports, m.Name) && !slices.ContainsFunc(mods, func(other impl.Scope) bool { return sameByHand(m, other) }) {
			return true
		}
	}
	return false
}

// areThere tells whether all imports of a client are among the modules.
func areThere(imports []string, mods []impl.Scope) bool {
	for _, name := range imports {
		if !slices.ContainsFunc(mods, func(m impl.Scope) bool { return m.Name == name }) {
			return false
		}
	}
	return true
}

// otherHere tells a module in which a number, a mark or a type is another one, so that what uses it may
// mostly be taken still.
func (g *scribe) otherHere(text string) string {
	l := strings.Fields(text)
	for range 200 {
		n := g.below(len(l))
		switch c := l[n][0]; {
		case c >= '0' && c <= '9':
			l[n] = g.one("1", "2", "3", "5")
		case l[n] == "INT" || l[n] == "BOOL" || l[n] == "CHAR":
			l[n] = g.one("INT", "BOOL", "CHAR")
		case l[n] == "VAR" && (l[n-1] == "(" || l[n-1] == ";") && l[n+2] == ":":
			l = slices.Delete(l, n, n+1)
		case l[n] == ":" && l[n-1] == "*":
			l[n-1] = "-"
		default:
			continue
		}
		break
	}
	return strings.Join(l, " ")
}

// TestClientsOfManyVersions writes modules of six names again and again. Each that stands is held
// against the modules as they are by now: where nothing is otherwise it is taken by them, too.
func TestClientsOfManyVersions(t *testing.T) {
	g := &scribe{row: &row{seed: 12}}
	var mods []impl.Scope
	stands := map[string]standing{}
	names := []string{"A", "B", "C", "D", "E", "F"}
	held, stale, taken := 0, 0, 0
	for range 3000 {
		name := g.one(names...)
		text := g.module(name, mods)
		if old := stands[name]; old.text != "" && len(mods) > 0 && g.below(4) > 0 {
			switch text = old.text; g.below(4) {
			case 0:
				text = g.goneOn(text, mods)
			case 1:
				text = g.spoilt(text)
			default:
				text = g.otherHere(text)
			}
		}
		s, code, _, _ := impl.Compile(text, mods)
		if code != 0 || s.Name != name {
			continue
		}
		seen, _ := checkSeen(t, s, modsModelOf(mods))
		stands[name] = standing{strings.Join(strings.Fields(text), " "), s, seen, mods}
		mods = slices.DeleteFunc(slices.Clone(mods), func(m impl.Scope) bool { return m.Name == name })
		if export := exportByStack(s); len(export.Types) < 14 {
			mods = append(mods, export)
		}
		m := modsModelOf(mods)
		for _, name := range names {
			one := stands[name]
			switch {
			case len(checkCheck(t, one.seen, m)) > 0:
				stale++
				if _, _, _, ok := impl.Compile(one.text, mods); ok {
					taken++
				}
			case len(one.seen) > 0 && areThere(one.scope.Imports, mods):
				wantToldTheSame(t, one.text, one.scope, one.seen, m)
				if one.areOthers(mods) {
					held++
				}
			}
		}
	}
	t.Log(held, stale, taken)
	if held < 300 || stale-taken < 500 || taken < 200 {
		t.Error("too few clients of each sort", held, stale, taken)
	}
}

// someClient tells a scope that uses something of some modules, all of which is mostly there.
func (r *row) someClient(mods []impl.Scope) impl.Scope {
	s := impl.Scope{Name: "Client", Types: impl.BaseTypes()}
	for _, m := range mods {
		if r.below(3) == 0 || len(s.Imports) == 4 {
			continue
		}
		s.Imports = append(s.Imports, m.Name)
		for _, o := range m.Objects {
			if r.below(2) == 0 {
				s.Uses = append(s.Uses, impl.Use{Mod: m.Name, Name: o.Name})
			}
		}
		if r.below(12) == 0 {
			s.Uses = append(s.Uses, impl.Use{Mod: m.Name, Name: "none"})
		}
	}
	used := slices.Clone(s.Uses)
	for n, from := range r.shuffled(len(used), 0) {
		s.Uses[n] = used[from]
	}
	if r.below(10) == 0 {
		s.Imports = append(s.Imports, "Zz")
		s.Uses = append(s.Uses, impl.Use{Mod: "Zz", Name: "x"})
	}
	if r.below(20) == 0 && len(s.Uses) > 1 {
		s.Uses[0] = s.Uses[1]
	}
	if r.below(20) == 0 {
		s = r.changed(s)
	}
	return s
}

func (r *row) someMods() []impl.Scope {
	var mods []impl.Scope
	for n := range 1 + r.below(5) {
		m := r.someScope()
		for !scopeByForm(m) {
			m = r.someScope()
		}
		m = exportByStack(m)
		m.Name = "ABCDE"[n : n+1]
		if r.below(40) == 0 {
			m.Name = "A"
		}
		mods = append(mods, m)
	}
	return mods
}

// TestWhatManyClientsSaw makes modules, good and not, and clients of these, without a text.
func TestWhatManyClientsSaw(t *testing.T) {
	r := &row{seed: 21}
	told, not, fewer, same := 0, 0, 0, 0
	for range 5000 {
		m := modsModelOf(r.someMods())
		l, ok := checkSeen(t, r.someClient(m.mods), m)
		if !ok {
			not++
			continue
		}
		told++
		other := copyOfMods(m.mods)
		n := r.below(len(other))
		switch r.below(6) {
		case 0:
			other[n].Name = "Gone"
		case 1, 2:
			other[n] = exportByStack(r.turnedObjects(other[n]))
		case 3:
			other[n], other[0] = other[0], other[n]
		case 4:
			other[n] = r.changed(other[n])
		default:
			other[n] = r.changedObject(other[n])
		}
		if scopeByForm(other[n]) {
			other[n] = exportByStack(other[n])
		}
		others := checkCheck(t, l, modsModelOf(other))
		if len(others) > 0 && len(others) < len(l) {
			fewer++
		} else if len(l) > 0 && len(others) == 0 {
			same++
		}
	}
	t.Log(told, not, fewer, same)
	if told < 1000 || not < 300 || fewer < 100 || same < 300 {
		t.Error("too few clients of each sort", told, not, fewer, same)
	}
}

var seenTexts = []string{"A", "B", "a", "b", "x", "INT", "k9", "abcdefghij", "Zz", "ab"}

func (r *row) someSeen() []impl.Seen {
	sums := []int{0, 0, 1, 127, 128, 255, 256, 65535, 1<<32 - 1, 1 << 32, 1<<62 - 1, 1 << 62, 1<<63 - 1, 4306798251696492974}
	var l []impl.Seen
	for range r.below(2 + r.below(2)*40) {
		one := impl.Seen{Mod: seenTexts[r.below(10)], Name: seenTexts[r.below(10)], Sum: sums[r.below(len(sums))]}
		if !slices.ContainsFunc(l, func(s impl.Seen) bool { return s.Mod == one.Mod && s.Name == one.Name }) {
			l = append(l, one)
		}
	}
	if len(l) > 0 && r.below(8) == 0 {
		one := &l[r.below(len(l))]
		switch r.below(4) {
		case 0:
			one.Mod = badNames[r.below(len(badNames))]
		case 1:
			one.Name = badNames[r.below(len(badNames))]
		case 2:
			one.Sum = []int{-1, -2, -1 << 63, -1 << 62}[r.below(4)]
		default:
			l = append(l, *one)
			l[len(l)-1].Sum++
		}
	}
	return l
}

// spoiltSeen tells bytes with some of them changed, left out, put in, or cut off.
func (r *row) spoiltSeen(b []byte) string {
	for range r.below(3) {
		n := r.below(len(b))
		some := []byte{0, 1, 2, 3, 4, 8, 10, 11, 80, 82, 'A', 'x', 127, 128, 129, 255, byte(r.below(256))}
		c := some[r.below(len(some))]
		switch r.below(6) {
		case 0:
			b = slices.Delete(b, n, n+1)
		case 1:
			b = slices.Insert(b, n, c)
		case 2:
			b[n] ^= 1 << r.below(8)
		case 3:
			b = b[:n]
		default:
			b[n] = c
		}
		if len(b) == 0 {
			break
		}
	}
	return string(b)
}

// TestManySeen holds lists and their bytes, changed here and there, against the model.
func TestManySeen(t *testing.T) {
	r := &row{seed: 31}
	good, bad, read, not := 0, 0, 0, 0
	for range 3000 {
		l := r.someSeen()
		if !checkSeenList(t, l) {
			bad++
			continue
		}
		good++
		for range 10 {
			if checkSeenRead(t, r.spoiltSeen([]byte(seenByHand(l)))) {
				read++
			} else {
				not++
			}
		}
	}
	t.Log(good, bad, read, not)
	if good < 1000 || bad < 100 || read < 1000 || not < 1000 {
		t.Error("too few lists of each sort", good, bad, read, not)
	}
}
