package tests

import (
	"math"
	"reflect"
	"slices"
	"strconv"
	"strings"
	"testing"
	"unsafe"

	"loop.example/g00837/impl"
)

const mostUses = 40

func constOf(name string, mark, value int) impl.Object {
	return impl.Object{Name: name, Kind: impl.ObConst, Mark: mark, Value: value}
}

func typeOf(name string, mark, of int) impl.Object {
	return impl.Object{Name: name, Kind: impl.ObType, Mark: mark, Type: of}
}

func varOf(name string, mark, of int) impl.Object {
	return impl.Object{Name: name, Kind: impl.ObVar, Mark: mark, Type: of}
}

func procOf(name string, mark, of int, params ...impl.Param) impl.Object {
	return impl.Object{Name: name, Kind: impl.ObProc, Mark: mark, Type: of, Params: params}
}

func param(name string, byVar bool, of int) impl.Param {
	return impl.Param{Name: name, ByVar: byVar, Type: of}
}

func scopeOf(types []impl.Type, objects ...impl.Object) impl.Scope {
	return impl.Scope{Name: "A", Types: types, Objects: objects}
}

func copyOfScope(s impl.Scope) impl.Scope {
	s.Imports = slices.Clone(s.Imports)
	s.Types = copyOf(s.Types)
	s.Objects = slices.Clone(s.Objects)
	for i := range s.Objects {
		s.Objects[i].Params = slices.Clone(s.Objects[i].Params)
	}
	s.Uses = slices.Clone(s.Uses)
	return s
}

// changedScope tells a scope with one thing made otherwise.
func changedScope(s impl.Scope, change func(s *impl.Scope)) impl.Scope {
	s = copyOfScope(s)
	change(&s)
	return s
}

// fullScope has each kind of object with each mark that it may have, imports and uses, and the types
// of mixedTypes, not all of which are shown.
func fullScope() impl.Scope {
	s := scopeOf(mixedTypes(),
		constOf("hidden", impl.MkNone, -3),
		varOf("list", impl.MkRead, 8),
		constOf("least", impl.MkFull, -impl.MaxWhole),
		typeOf("R", impl.MkFull, 3),
		typeOf("Own", impl.MkNone, 10),
		varOf("free", impl.MkFull, 0),
		varOf("own", impl.MkNone, 9),
		procOf("run", impl.MkFull, -1),
		procOf("find", impl.MkFull, 4, param("in", true, 5), param("by", false, 2)),
		procOf("help", impl.MkNone, 9, param("by", true, 10)),
	)
	s.Imports = []string{"B", "Cc"}
	s.Uses = []impl.Use{{Mod: "B", Name: "x"}, {Mod: "Cc", Name: "x"}, {Mod: "B", Name: "y"}}
	return s
}

// exportOfFull is written down by hand, type by type as they are met.
func exportOfFull() impl.Scope {
	return scopeOf(tableOf(
		pointerTo(4),                         // 3, the one of list
		arrayOf(10, 5),                       // 4
		calledSo(arrayOf(1000, 2), "B", "R"), // 5
		calledSo(recordOf(-1, field("x", impl.MkFull, 0), field("", impl.MkNone, 7), field("", impl.MkNone, 2)), "A", "R"), // 6
		calledSo(pointerTo(8), "A", "P"),                                    // 7
		recordOf(6, field("y", impl.MkRead, 4), field("x", impl.MkFull, 1)), // 8
	),
		varOf("list", impl.MkRead, 3),
		constOf("least", impl.MkFull, -impl.MaxWhole),
		typeOf("R", impl.MkFull, 6),
		varOf("free", impl.MkFull, 0),
		procOf("run", impl.MkFull, -1),
		procOf("find", impl.MkFull, 7, param("in", true, 8), param("by", false, 2)),
	)
}

// sameByHand compares without the program; an empty list and none are the same.
func sameByHand(a, b impl.Scope) bool {
	return reflect.DeepEqual(withoutEmpty(a), withoutEmpty(b))
}

func withoutEmpty(s impl.Scope) impl.Scope {
	s = copyOfScope(s)
	for i := range s.Types {
		if len(s.Types[i].Fields) == 0 {
			s.Types[i].Fields = nil
		}
	}
	for i := range s.Objects {
		if len(s.Objects[i].Params) == 0 {
			s.Objects[i].Params = nil
		}
	}
	s.Imports = append([]string(nil), s.Imports...)
	s.Types = append([]impl.Type(nil), s.Types...)
	s.Objects = append([]impl.Object(nil), s.Objects...)
	s.Uses = append([]impl.Use(nil), s.Uses...)
	return s
}

func wantGoodScope(t *testing.T, s impl.Scope, good bool) {
	t.Helper()
	if ok := impl.GoodScope(s); ok != good {
		t.Errorf("GoodScope(%v) = %v", s, ok)
	}
	if !good {
		wantNothingOf(t, s)
	}
}

// wantNothingOf asks for the zero answers of a scope that is not good.
func wantNothingOf(t *testing.T, s impl.Scope) {
	t.Helper()
	if got, ok := impl.ExportOf(s); ok || !reflect.DeepEqual(withoutEmpty(got), impl.Scope{}) {
		t.Errorf("ExportOf(%v) = %v, %v", s, got, ok)
	}
	wantIsExport(t, s, false, false)
	wantShown(t, s, nil, false)
	for _, object := range s.Objects[:min(len(s.Objects), 20)] {
		wantObject(t, s, object.Name, 0, false)
	}
	good := fullScope()
	wantAlike(t, s, s, false, false)
	wantAlike(t, s, good, false, false)
	for _, n := range []int{-1, 0, 1} {
		wantAlikeObjects(t, s, n, s, n, false, false)
		wantAlikeObjects(t, s, n, good, 0, false, false)
		wantAlikeObjects(t, s, 0, good, n, false, false)
	}
}

func wantObject(t *testing.T, s impl.Scope, name string, n int, good bool) {
	t.Helper()
	if got, ok := impl.ObjectAt(s, name); got != n || ok != good {
		t.Errorf("ObjectAt(%v, %q) = %d, %v, want %d, %v", s, name, got, ok, n, good)
	}
}

func wantExport(t *testing.T, s, want impl.Scope) {
	t.Helper()
	got, ok := impl.ExportOf(s)
	if !ok || !sameByHand(got, want) {
		t.Errorf("ExportOf(%v) = %v, %v, want %v", s, got, ok, want)
	}
}

func wantIsExport(t *testing.T, s impl.Scope, is, good bool) {
	t.Helper()
	if got, ok := impl.IsExport(s); got != is || ok != good {
		t.Errorf("IsExport(%v) = %v, %v, want %v, %v", s, got, ok, is, good)
	}
}

func wantShown(t *testing.T, s impl.Scope, names []string, good bool) {
	t.Helper()
	if got, ok := impl.ShownNames(s); !slices.Equal(got, names) || ok != good {
		t.Errorf("ShownNames(%v) = %v, %v, want %v, %v", s, got, ok, names, good)
	}
}

// wantAlike asks both ways.
func wantAlike(t *testing.T, a, b impl.Scope, alike, good bool) {
	t.Helper()
	if got, ok := impl.AlikeScopes(a, b); got != alike || ok != good {
		t.Errorf("AlikeScopes(%v, %v) = %v, %v, want %v, %v", a, b, got, ok, alike, good)
	}
	if got, ok := impl.AlikeScopes(b, a); got != alike || ok != good {
		t.Errorf("AlikeScopes(%v, %v) = %v, %v, want %v, %v", b, a, got, ok, alike, good)
	}
}

// wantAlikeObjects asks both ways.
func wantAlikeObjects(t *testing.T, a impl.Scope, x int, b impl.Scope, y int, alike, good bool) {
	t.Helper()
	if got, ok := impl.AlikeObjects(a, x, b, y); got != alike || ok != good {
		t.Errorf("AlikeObjects(%v, %d, %v, %d) = %v, %v, want %v, %v", a, x, b, y, got, ok, alike, good)
	}
	if got, ok := impl.AlikeObjects(b, y, a, x); got != alike || ok != good {
		t.Errorf("AlikeObjects(%v, %d, %v, %d) = %v, %v, want %v, %v", b, y, a, x, got, ok, alike, good)
	}
}

// wantSameScope asks both ways.
func wantSameScope(t *testing.T, a, b impl.Scope, same bool) {
	t.Helper()
	if impl.SameScope(a, b) != same || impl.SameScope(b, a) != same {
		t.Errorf("SameScope(%v, %v) is not %v", a, b, same)
	}
}

func TestScopeConstantsAreAsTold(t *testing.T) {
	if impl.MaxObjects != 16 || impl.MaxParams != 4 || impl.MaxImports != 4 {
		t.Error(impl.MaxObjects, impl.MaxParams, impl.MaxImports)
	}
	if impl.ObConst != 1 || impl.ObType != 2 || impl.ObVar != 3 || impl.ObProc != 4 {
		t.Error(impl.ObConst, impl.ObType, impl.ObVar, impl.ObProc)
	}
}

// wantPromised asks for what promise 4 says of any good scope, and of what is alike.
func wantPromised(t *testing.T, s impl.Scope) {
	t.Helper()
	wantGoodScope(t, s, true)
	export, ok := impl.ExportOf(s)
	if !ok {
		t.Fatalf("no export of %v", s)
	}
	wantGoodScope(t, export, true)
	wantIsExport(t, export, true, true)
	wantExport(t, export, export)
	wantIsExport(t, s, sameByHand(s, export), true)
	shown, _ := impl.ShownNames(s)
	wantShown(t, export, shown, true)
	if len(shown) != len(export.Objects) {
		t.Errorf("%v shows %v", export, shown)
	}
	if export.Name != s.Name || len(export.Imports) != 0 || len(export.Uses) != 0 {
		t.Errorf("ExportOf(%v) = %v", s, export)
	}
	wantOnlyReached(t, export)
	for _, one := range []impl.Scope{s, export} {
		wantAlike(t, one, copyOfScope(one), true, true)
		wantSameScope(t, one, copyOfScope(one), true)
		for n, object := range one.Objects {
			wantObject(t, one, object.Name, n, true)
			wantAlikeObjects(t, one, n, copyOfScope(one), n, true, true)
		}
	}
}

// wantOnlyReached asks whether each type but the first three is reached from an object.
func wantOnlyReached(t *testing.T, s impl.Scope) {
	t.Helper()
	from := []int{0, 1, 2}
	for _, object := range s.Objects {
		if object.Type >= 0 {
			from = append(from, object.Type)
		}
		for _, p := range object.Params {
			from = append(from, p.Type)
		}
	}
	slices.Sort(from)
	reached, ok := impl.ReachedOf(s.Types, slices.Compact(from))
	if !ok || !slices.Equal(reached, numbersOf(s.Types)) {
		t.Errorf("of %v only %v are reached", s, reached)
	}
}

func TestWhatAModuleTells(t *testing.T) {
	s := fullScope()
	wantPromised(t, s)
	wantExport(t, s, exportOfFull())
	wantPromised(t, exportOfFull())
	wantIsExport(t, s, false, true)
	wantIsExport(t, exportOfFull(), true, true)
	wantShown(t, s, []string{"list", "least", "R", "free", "run", "find"}, true)
	wantAlike(t, s, exportOfFull(), false, true)
}

func TestNamesOfObjectsAreFound(t *testing.T) {
	s := fullScope()
	for n, name := range []string{"hidden", "list", "least", "R", "Own", "free", "own", "run", "find", "help"} {
		wantObject(t, s, name, n, true)
	}
	for _, name := range []string{"A", "B", "Cc", "x", "in", "by", "INT", "P", "r", "lis", "lists", "OWN", strings.Repeat("x", 100000)} {
		wantObject(t, s, name, 0, false)
	}
	for _, name := range badNames {
		wantObject(t, s, name, 0, false)
		wantObject(t, scopeOf(impl.BaseTypes()), name, 0, false)
	}
}

func TestNothingIsShown(t *testing.T) {
	empty := scopeOf(impl.BaseTypes())
	wantPromised(t, empty)
	wantIsExport(t, empty, true, true)
	wantShown(t, empty, nil, true)
	s := changedScope(fullScope(), func(s *impl.Scope) {
		for i := range s.Objects {
			s.Objects[i].Mark = impl.MkNone
		}
	})
	wantPromised(t, s)
	wantExport(t, s, empty)
	wantShown(t, s, nil, true)
	// The first three are told though nobody reaches them.
	wantExport(t, scopeOf(mixedTypes(), typeOf("E", impl.MkFull, 9)), scopeOf(tableOf(recordOf(-1)), typeOf("E", impl.MkFull, 3)))
	wantExport(t, scopeOf(mixedTypes(), procOf("p", impl.MkFull, -1)), scopeOf(impl.BaseTypes(), procOf("p", impl.MkFull, -1)))
	wantExport(t, scopeOf(mixedTypes(), constOf("c", impl.MkFull, 8)), scopeOf(impl.BaseTypes(), constOf("c", impl.MkFull, 8)))
}

func TestNamesOfScopes(t *testing.T) {
	for _, name := range goodNames {
		s := fullScope()
		s.Name = name
		wantPromised(t, s)
		export, _ := impl.ExportOf(s)
		if export.Name != name {
			t.Errorf("the export of %q is %q", name, export.Name)
		}
	}
	for _, name := range badNames {
		s := fullScope()
		s.Name = name
		wantGoodScope(t, s, false)
	}
}

func TestImportsOfScopes(t *testing.T) {
	with := func(imports ...string) impl.Scope {
		s := fullScope()
		s.Uses = nil
		s.Imports = imports
		return s
	}
	all := []string{"B", "C", "D", "E"}
	for n := range len(all) + 1 {
		wantPromised(t, with(all[:n]...))
	}
	wantGoodScope(t, with("B", "C", "D", "E", "F"), false)
	wantGoodScope(t, with(slices.Repeat(all, 30000)...), false)
	wantGoodScope(t, with("A"), false)
	wantGoodScope(t, with("B", "A"), false)
	wantGoodScope(t, with("A", "B", "C", "D"), false)
	wantGoodScope(t, with("B", "B"), false)
	wantGoodScope(t, with("B", "C", "D", "B"), false)
	wantGoodScope(t, with("B", "C", "C"), false)
	wantGoodScope(t, with("a", "b", "B", "INT"), true)
	for _, name := range badNames {
		wantGoodScope(t, with(name), false)
		wantGoodScope(t, with("B", "C", name), false)
	}
}

func TestNamesOfObjects(t *testing.T) {
	for _, name := range goodNames {
		s := fullScope()
		s.Objects[1].Name = name
		wantPromised(t, s)
		s.Objects[6].Name = name
		wantGoodScope(t, s, false)
		s = fullScope()
		s.Name, s.Uses, s.Imports = "Other", nil, []string{"B", name}
		wantGoodScope(t, s, true)
		s.Objects[0].Name = name
		wantGoodScope(t, s, false)
		s.Objects[0].Name = "hidden"
		s.Objects[len(s.Objects)-1].Name = name
		wantGoodScope(t, s, false)
	}
	for _, name := range badNames {
		s := fullScope()
		s.Objects[1].Name = name
		wantGoodScope(t, s, false)
	}
	// The scope's own name may be that of an object, and so may that of a type or a param.
	for _, name := range []string{"A", "P", "in", "INT", "x"} {
		s := fullScope()
		s.Objects[0].Name = name
		wantPromised(t, s)
	}
}

func TestHowManyObjects(t *testing.T) {
	s := scopeOf(impl.BaseTypes())
	for n := range impl.MaxObjects {
		wantPromised(t, s)
		s.Objects = append(s.Objects, constOf("c"+strconv.Itoa(n), n%2, n))
	}
	wantPromised(t, s)
	wantObject(t, s, "c15", 15, true)
	all := changedScope(s, func(s *impl.Scope) {
		for i := range s.Objects {
			s.Objects[i].Mark = impl.MkFull
		}
	})
	wantPromised(t, all)
	wantIsExport(t, all, true, true)
	wantGoodScope(t, changedScope(s, func(s *impl.Scope) { s.Objects = append(s.Objects, constOf("more", 0, 0)) }), false)
	wantGoodScope(t, changedScope(s, func(s *impl.Scope) { s.Objects = make([]impl.Object, 100000) }), false)
	many := scopeOf(impl.BaseTypes())
	for n := range 100000 {
		many.Objects = append(many.Objects, constOf("c"+strconv.Itoa(n), 0, 0))
	}
	wantGoodScope(t, many, false)
}

func TestUsesOfScopes(t *testing.T) {
	with := func(uses ...impl.Use) impl.Scope {
		return changedScope(fullScope(), func(s *impl.Scope) { s.Uses = uses })
	}
	var uses []impl.Use
	for n := range mostUses {
		wantGoodScope(t, with(uses...), true)
		uses = append(uses, impl.Use{Mod: []string{"B", "Cc"}[n%2], Name: "u" + strconv.Itoa(n/2)})
	}
	wantPromised(t, with(uses...))
	wantGoodScope(t, with(append(slices.Clone(uses), impl.Use{Mod: "B", Name: "more"})...), false)
	wantGoodScope(t, with(slices.Repeat(uses, 3000)...), false)
	x := impl.Use{Mod: "B", Name: "x"}
	wantGoodScope(t, with(x, x), false)
	wantGoodScope(t, with(x, impl.Use{Mod: "Cc", Name: "x"}, x), false)
	wantGoodScope(t, with(append(slices.Clone(uses[1:]), uses[39])...), false)
	wantGoodScope(t, with(x, impl.Use{Mod: "Cc", Name: "x"}, impl.Use{Mod: "B", Name: "y"}), true)
	for _, mod := range append(badNames, "A", "b", "C", "Bb", "x", "list", "INT") {
		wantGoodScope(t, with(impl.Use{Mod: mod, Name: "x"}), false)
		wantGoodScope(t, with(x, impl.Use{Mod: mod, Name: "y"}), false)
	}
	for _, name := range goodNames {
		wantGoodScope(t, with(impl.Use{Mod: "B", Name: name}), true)
	}
	for _, name := range badNames {
		wantGoodScope(t, with(impl.Use{Mod: "B", Name: name}), false)
		wantGoodScope(t, with(x, impl.Use{Mod: "Cc", Name: name}), false)
	}
	for _, name := range []string{"A", "B", "Cc", "list", "INT"} {
		wantGoodScope(t, with(impl.Use{Mod: "B", Name: name}), true)
	}
	none := with(x)
	none.Imports = nil
	wantGoodScope(t, none, false)
}

// someObjects tells one object of each kind.
func someObjects(mark int) []impl.Object {
	return []impl.Object{constOf("o", mark, 5), typeOf("o", mark, 3), varOf("o", mark, 3), procOf("o", mark, 3, param("a", true, 4)), procOf("o", mark, -1)}
}

func TestMarksOfObjects(t *testing.T) {
	l := mixedTypes()
	for mark := -3; mark <= 6; mark++ {
		for _, object := range someObjects(mark) {
			good := mark == impl.MkNone || mark == impl.MkFull || mark == impl.MkRead && object.Kind == impl.ObVar
			wantGoodScope(t, scopeOf(l, object), good)
			if good {
				wantPromised(t, scopeOf(l, object))
				shown := []string{"o"}
				if mark == impl.MkNone {
					shown = nil
				}
				wantShown(t, scopeOf(l, object), shown, true)
			}
		}
	}
	for _, mark := range []int{math.MaxInt, math.MinInt, 256, 257, 1 << 32, 1<<32 + 1} {
		for _, object := range someObjects(mark) {
			wantGoodScope(t, scopeOf(l, object), false)
		}
	}
}

func TestKindsOfObjects(t *testing.T) {
	for _, kind := range []int{0, -1, 5, 6, 256 + impl.ObVar, 1<<32 + impl.ObVar, math.MaxInt, math.MinInt} {
		for _, of := range []int{0, 3, -1} {
			o := varOf("o", impl.MkNone, of)
			o.Kind = kind
			wantGoodScope(t, scopeOf(mixedTypes(), o), false)
		}
	}
}

func TestValuesOfObjects(t *testing.T) {
	l := mixedTypes()
	for _, value := range []int{-impl.MaxWhole, impl.MaxWhole, 0, 1, -1} {
		wantPromised(t, scopeOf(l, constOf("o", impl.MkFull, value)))
		export, _ := impl.ExportOf(scopeOf(l, constOf("o", impl.MkFull, value)))
		if len(export.Objects) != 1 || export.Objects[0].Value != value {
			t.Errorf("the value %d is told as %v", value, export.Objects)
		}
	}
	for _, value := range farNumbers {
		wantGoodScope(t, scopeOf(l, constOf("o", impl.MkFull, value)), false)
	}
	for _, value := range append(farNumbers, 1, -1, impl.MaxWhole) {
		for _, object := range someObjects(impl.MkNone)[1:] {
			object.Value = value
			wantGoodScope(t, scopeOf(l, object), false)
		}
	}
}

func TestTypesOfObjects(t *testing.T) {
	l := mixedTypes()
	c := constOf("o", impl.MkFull, 5)
	for n := range l {
		c.Type = n
		wantGoodScope(t, scopeOf(l, c), n == 0)
		for _, object := range someObjects(impl.MkFull)[1:] {
			object.Type = n
			wantPromised(t, scopeOf(l, object))
		}
		wantPromised(t, scopeOf(l, procOf("o", impl.MkFull, -1, param("a", false, n))))
	}
	for _, n := range outsideOf(l) {
		c.Type = n
		wantGoodScope(t, scopeOf(l, c), false)
		for _, object := range someObjects(impl.MkFull)[1:] {
			object.Type = n
			wantGoodScope(t, scopeOf(l, object), object.Kind == impl.ObProc && n == -1)
		}
		wantGoodScope(t, scopeOf(l, procOf("o", impl.MkFull, 0, param("a", false, n))), false)
		wantGoodScope(t, scopeOf(l, procOf("o", impl.MkFull, -1, param("a", false, 3), param("b", true, n))), false)
	}
}

func TestParamsOfObjects(t *testing.T) {
	l := mixedTypes()
	for _, object := range someObjects(impl.MkFull)[:3] {
		object.Params = []impl.Param{param("a", false, 0)}
		wantGoodScope(t, scopeOf(l, object), false)
		object.Params = []impl.Param{{}}
		wantGoodScope(t, scopeOf(l, object), false)
		object.Params = []impl.Param{}
		wantPromised(t, scopeOf(l, object))
	}
	of := func(params ...impl.Param) impl.Scope { return scopeOf(l, procOf("o", impl.MkFull, -1, params...)) }
	all := []impl.Param{param("a", false, 0), param("b", true, 3), param("c", false, 0), param("d", true, 10)}
	for n := range len(all) + 1 {
		wantPromised(t, of(all[:n]...))
	}
	wantGoodScope(t, of(append(slices.Clone(all), param("e", false, 0))...), false)
	wantGoodScope(t, of(make([]impl.Param, 100000)...), false)
	wantGoodScope(t, of(all[0], all[0]), false)
	wantGoodScope(t, of(all[0], param("a", true, 3)), false)
	wantGoodScope(t, of(all[0], all[1], all[2], param("b", false, 2)), false)
	wantGoodScope(t, of(all[0], param("A", true, 3)), true)
	for _, name := range goodNames {
		wantGoodScope(t, of(param(name, true, 0)), true)
	}
	for _, name := range badNames {
		wantGoodScope(t, of(param(name, true, 0)), false)
		wantGoodScope(t, of(all[0], all[1], param(name, false, 0)), false)
	}
	// Params of two objects may be called alike, and as an object, an import or the scope is.
	s := of(param("A", false, 0), param("B", false, 0), param("o", false, 0), param("p", false, 0))
	s.Imports = []string{"B"}
	s.Objects = append(s.Objects, procOf("p", impl.MkFull, 0, param("o", false, 0), param("p", true, 0)))
	wantPromised(t, s)
}

func TestTypesOfScopes(t *testing.T) {
	for _, l := range badTables() {
		s := fullScope()
		s.Types = l
		wantGoodScope(t, s, false)
	}
	for _, w := range roundTypes {
		wantGoodScope(t, scopeOf(tableOf(w.others...)), false)
	}
	l := nested(21, 1, 0)
	wantExport(t, scopeOf(l, varOf("v", impl.MkFull, 3)), scopeOf(l, varOf("v", impl.MkFull, 3)))
	wantGoodScope(t, scopeOf(append(l, arrayOf(1, 0))), false)
}

// TestTypesAsTheyAreMet tells each time in which order the types of one object are met.
func TestTypesAsTheyAreMet(t *testing.T) {
	for _, w := range []struct {
		types  []impl.Type
		object impl.Object
		met    []int
	}{
		// What the Base reaches comes ahead of what the Fields do, all of it.
		{tableOf(recordOf(-1), arrayOf(2, 3), recordOf(7, field("a", 1, 4)), recordOf(-1), recordOf(6, field("b", 1, 8)), arrayOf(9, 0)),
			typeOf("T", 1, 5), []int{5, 7, 6, 8, 4, 3}},
		// Field by field, each with all that it reaches; what was met is not met again.
		{tableOf(recordOf(-1, field("a", 1, 6), field("b", 1, 4), field("c", 1, 6), field("d", 1, 5)), arrayOf(2, 5), arrayOf(3, 6), arrayOf(4, 0)),
			varOf("v", 1, 3), []int{3, 6, 4, 5}},
		{tableOf(recordOf(-1, field("a", 1, 4), field("b", 1, 6)), arrayOf(2, 5), arrayOf(3, 6), arrayOf(4, 0)),
			varOf("v", 2, 3), []int{3, 4, 5, 6}},
		// The Type comes ahead of the Params, and these in order.
		{tableOf(arrayOf(2, 0), arrayOf(3, 0), arrayOf(4, 0), arrayOf(5, 4)),
			procOf("p", 1, 6, param("a", true, 5), param("b", false, 3), param("c", false, 4)), []int{6, 4, 5, 3}},
		{tableOf(arrayOf(2, 0), arrayOf(3, 0), arrayOf(4, 0)),
			procOf("p", 1, -1, param("a", true, 5), param("b", false, 3), param("c", false, 5)), []int{5, 3}},
		// A Field without a mark leads to its Type, too.
		{tableOf(arrayOf(2, 0), recordOf(-1, field("a", 0, 5), field("", 0, 3)), arrayOf(4, 1)),
			typeOf("T", 1, 4), []int{4, 5, 3}},
		// Pointers lead to what they point to.
		{tableOf(recordOf(-1, field("next", 0, 4)), pointerTo(3)), varOf("v", 1, 4), []int{4, 3}},
		{tableOf(recordOf(-1, field("next", 1, 4)), pointerTo(3)), varOf("v", 1, 3), []int{3, 4}},
		{tableOf(pointerTo(5), recordOf(-1, field("a", 1, 3)), recordOf(-1, field("a", 1, 6), field("b", 1, 3)), pointerTo(4)),
			typeOf("T", 1, 6), []int{6, 4, 3, 5}},
	} {
		s := scopeOf(w.types, w.object)
		wantPromised(t, s)
		export, _ := impl.ExportOf(s)
		order := []int{0, 1, 2}
		order = append(order, w.met...)
		if len(export.Types) != len(order) {
			t.Errorf("%v: met are %v", s, export.Types)
			continue
		}
		for to, n := range order {
			if headText(export.Types[to], order) != headText(hiddenLeftOut(w.types[n]), numbersOf(w.types)) {
				t.Errorf("%v: as %d is told %v, not type %d", s, to, export.Types[to], n)
			}
		}
	}
}

// headText tells a type with its parts as numbers of the old table.
func headText(t impl.Type, order []int) string {
	text := strconv.Itoa(t.Kind) + " " + strconv.Itoa(t.Long) + " " + t.Owner + "." + t.Name
	if t.Base >= 0 {
		text += " of " + strconv.Itoa(order[t.Base])
	}
	for _, f := range t.Fields {
		text += " " + f.Name + strconv.Itoa(f.Mark) + ":" + strconv.Itoa(order[f.Type])
	}
	return text
}

func hiddenLeftOut(t impl.Type) impl.Type {
	t.Fields = slices.Clone(t.Fields)
	for i := range t.Fields {
		if t.Fields[i].Mark == impl.MkNone {
			t.Fields[i].Name = ""
		}
	}
	return t
}

// TestObjectsOneByOne: what an object that is shown reaches is met ahead of what the next one does.
func TestObjectsOneByOne(t *testing.T) {
	l := tableOf(arrayOf(2, 0), arrayOf(3, 3), arrayOf(4, 1), arrayOf(5, 1), arrayOf(6, 1), arrayOf(7, 2))
	s := scopeOf(l, varOf("a", impl.MkNone, 8), procOf("b", 1, -1, param("x", true, 6), param("y", false, 4)), constOf("c", 1, 0), typeOf("d", 0, 7), varOf("e", 2, 5), varOf("f", 1, 3))
	wantExport(t, s, scopeOf(tableOf(arrayOf(5, 1), arrayOf(3, 5), arrayOf(2, 0), arrayOf(4, 1)),
		procOf("b", 1, -1, param("x", true, 3), param("y", false, 4)), constOf("c", 1, 0), varOf("e", 2, 6), varOf("f", 1, 5)))
	wantPromised(t, s)
}

func TestNamesOfHiddenFieldsAreLeftOut(t *testing.T) {
	s := scopeOf(tableOf(
		calledSo(recordOf(4, field("a", 0, 0), field("b", 1, 1), field("c", 0, 2), field("", 0, 0), field("d", 2, 0), field("e", 0, 5)), "A", "R"),
		recordOf(-1, field("a", 0, 0), field("f", 0, 1)),
		pointerTo(6), recordOf(-1, field("g", 0, 1))), typeOf("R", impl.MkFull, 3))
	wantExport(t, s, scopeOf(tableOf(
		calledSo(recordOf(4, field("", 0, 0), field("b", 1, 1), field("", 0, 2), field("", 0, 0), field("d", 2, 0), field("", 0, 5)), "A", "R"),
		recordOf(-1, field("", 0, 0), field("", 0, 1)),
		pointerTo(6), recordOf(-1, field("", 0, 1))), typeOf("R", impl.MkFull, 3)))
	wantPromised(t, s)
}

func TestWhatIsNoExport(t *testing.T) {
	for i, change := range []func(s *impl.Scope){
		func(s *impl.Scope) { s.Imports = []string{"B"} },
		func(s *impl.Scope) {
			s.Imports, s.Uses = []string{"B"}, []impl.Use{{Mod: "B", Name: "x"}}
		},
		func(s *impl.Scope) { s.Objects[0].Mark = impl.MkNone },
		func(s *impl.Scope) { s.Objects = append(s.Objects, constOf("more", 0, 0)) },
		func(s *impl.Scope) { s.Types = append(s.Types, recordOf(-1)) },
		func(s *impl.Scope) { s.Types[6].Fields[1].Name = "next" },
		func(s *impl.Scope) { s.Objects[0], s.Objects[5] = s.Objects[5], s.Objects[0] },
		func(s *impl.Scope) { s.Types = renumbered(s.Types, []int{0, 1, 2, 3, 4, 5, 7, 6, 8}) },
		func(s *impl.Scope) { s.Objects = nil },
	} {
		s := changedScope(exportOfFull(), change)
		if !impl.GoodScope(s) {
			t.Errorf("change %d makes the scope bad", i)
		}
		wantIsExport(t, s, false, true)
		wantPromised(t, s)
	}
	for i, change := range []func(s *impl.Scope){
		func(s *impl.Scope) { s.Name = "Other" },
		func(s *impl.Scope) { s.Objects[1].Value = 3 },
		func(s *impl.Scope) { s.Objects[0].Name = "B" },
		func(s *impl.Scope) { s.Types[6].Fields[0].Name = "z" },
		func(s *impl.Scope) { s.Types[6].Name = "Z" },
		func(s *impl.Scope) { s.Imports, s.Uses = []string{}, []impl.Use{} },
		func(s *impl.Scope) { s.Objects[5].Params[0].ByVar = false },
	} {
		s := changedScope(exportOfFull(), change)
		if is, ok := impl.IsExport(s); !is || !ok {
			t.Errorf("change %d: %v, %v", i, is, ok)
		}
	}
}

// scopeChanges make one thing of fullScope otherwise each; alike tells whether that is not seen where
// only what types are like counts, and good whether the scope is still good.
var scopeChanges = []struct {
	change      func(s *impl.Scope)
	alike, good bool
}{
	{func(s *impl.Scope) { s.Name = "Z" }, false, true},
	{func(s *impl.Scope) { s.Name = "" }, false, false},
	{func(s *impl.Scope) { s.Imports = append(s.Imports, "D") }, false, true},
	{func(s *impl.Scope) { s.Imports[0], s.Imports[1] = s.Imports[1], s.Imports[0] }, false, true},
	{func(s *impl.Scope) { s.Imports = nil }, false, false},
	{func(s *impl.Scope) { s.Imports[0] = "b" }, false, false},
	{func(s *impl.Scope) { s.Uses = nil }, true, true},
	{func(s *impl.Scope) { s.Uses = s.Uses[:2] }, true, true},
	{func(s *impl.Scope) { s.Uses[0].Name = "z" }, true, true},
	{func(s *impl.Scope) { s.Uses[2].Mod = "Cc" }, true, true},
	{func(s *impl.Scope) { s.Uses[0], s.Uses[1] = s.Uses[1], s.Uses[0] }, true, true},
	{func(s *impl.Scope) { s.Types = append(s.Types, recordOf(-1)) }, true, true},
	{func(s *impl.Scope) { s.Types = s.Types[:3] }, false, false},
	{func(s *impl.Scope) { s.Types[9].Kind = 9 }, false, false},
	{func(s *impl.Scope) { s.Types[6].Long = 11 }, false, true},
	{func(s *impl.Scope) { s.Types[5].Base = -1 }, false, true},
	{func(s *impl.Scope) { s.Types[9].Owner, s.Types[9].Name = "A", "E" }, false, true},
	{func(s *impl.Scope) { s.Types[3].Owner = "B" }, false, false},
	{func(s *impl.Scope) { s.Types[3].Owner = "D" }, false, true},
	{func(s *impl.Scope) { s.Types[3].Name = "Q" }, false, true},
	{func(s *impl.Scope) { s.Types[3].Fields[1].Name = "z" }, false, true},
	{func(s *impl.Scope) { s.Types[3].Fields[1].Mark = impl.MkRead }, false, true},
	{func(s *impl.Scope) { s.Types[3].Fields[1].Type = 1 }, false, true},
	{func(s *impl.Scope) { s.Types[3].Fields = s.Types[3].Fields[:2] }, false, true},
	{func(s *impl.Scope) {
		s.Types[3].Fields[0], s.Types[3].Fields[1] = s.Types[3].Fields[1], s.Types[3].Fields[0]
	}, false, true},
	{func(s *impl.Scope) { s.Objects[0].Name = "z" }, false, true},
	{func(s *impl.Scope) { s.Objects[0].Kind = impl.ObVar }, false, false},
	{func(s *impl.Scope) { s.Objects[6].Kind = impl.ObType }, false, true},
	{func(s *impl.Scope) { s.Objects[0].Mark = impl.MkFull }, false, true},
	{func(s *impl.Scope) { s.Objects[1].Mark = impl.MkFull }, false, true},
	{func(s *impl.Scope) { s.Objects[0].Value = 3 }, false, true},
	{func(s *impl.Scope) { s.Objects[5].Type = 1 }, false, true},
	{func(s *impl.Scope) { s.Objects[7].Type = 0 }, false, true},
	{func(s *impl.Scope) { s.Objects[8].Type = -1 }, false, true},
	{func(s *impl.Scope) { s.Objects[9].Type = 10 }, false, true},
	{func(s *impl.Scope) { s.Objects[8].Params[0].Name = "z" }, false, true},
	{func(s *impl.Scope) { s.Objects[8].Params[1].ByVar = true }, false, true},
	{func(s *impl.Scope) { s.Objects[8].Params[1].Type = 1 }, false, true},
	{func(s *impl.Scope) { s.Objects[8].Params = s.Objects[8].Params[:1] }, false, true},
	{func(s *impl.Scope) { s.Objects[8].Params = append(s.Objects[8].Params, param("z", false, 0)) }, false, true},
	{func(s *impl.Scope) {
		p := s.Objects[8].Params
		p[0], p[1] = p[1], p[0]
	}, false, true},
	{func(s *impl.Scope) { s.Objects[7].Params = []impl.Param{param("z", false, 0)} }, false, true},
	{func(s *impl.Scope) { s.Objects = s.Objects[:9] }, false, true},
	{func(s *impl.Scope) { s.Objects = s.Objects[1:] }, false, true},
	{func(s *impl.Scope) { s.Objects = nil }, false, true},
	{func(s *impl.Scope) { s.Objects = append(s.Objects, constOf("z", 0, 0)) }, false, true},
	{func(s *impl.Scope) { s.Objects[0], s.Objects[2] = s.Objects[2], s.Objects[0] }, false, true},
}

func TestOneThingMadeOtherwise(t *testing.T) {
	for i, w := range scopeChanges {
		s := fullScope()
		other := changedScope(s, w.change)
		if impl.GoodScope(other) != w.good {
			t.Errorf("change %d: good is %v", i, !w.good)
		}
		wantSameScope(t, s, other, false)
		wantSameScope(t, other, copyOfScope(other), true)
		wantAlike(t, s, other, w.alike, w.good)
		wantAlike(t, other, copyOfScope(other), w.good, w.good)
		if w.good {
			wantPromised(t, other)
		}
	}
}

func TestEmptyListsAreTheSameAsNone(t *testing.T) {
	filled := changedScope(fullScope(), func(s *impl.Scope) {
		for i := range s.Types {
			s.Types[i].Fields = append([]impl.Field{}, s.Types[i].Fields...)
		}
		for i := range s.Objects {
			s.Objects[i].Params = append([]impl.Param{}, s.Objects[i].Params...)
		}
	})
	wantSameScope(t, fullScope(), filled, true)
	wantAlike(t, fullScope(), filled, true, true)
	wantExport(t, filled, exportOfFull())
	empty := impl.Scope{Imports: []string{}, Types: []impl.Type{}, Objects: []impl.Object{}, Uses: []impl.Use{}}
	wantSameScope(t, empty, impl.Scope{}, true)
	wantSameScope(t, empty, impl.Scope{Name: "A"}, false)
	e := exportOfFull()
	e.Imports, e.Uses = []string{}, []impl.Use{}
	wantIsExport(t, e, true, true)
	wantSameScope(t, e, exportOfFull(), true)
}

// TestSameScopeOfAnyTwo asks of scopes that are not good, with any numbers and of any size.
func TestSameScopeOfAnyTwo(t *testing.T) {
	odd := func() impl.Scope {
		return impl.Scope{
			Name:    "not a name",
			Imports: []string{"", "", "\xff"},
			Types:   []impl.Type{{Kind: -7, Long: math.MaxInt, Base: math.MinInt, Owner: "-", Fields: []impl.Field{{}, field("\x00", -9, math.MaxInt)}}},
			Objects: []impl.Object{{}, {Name: "", Kind: 99, Mark: -1, Type: math.MinInt, Value: math.MaxInt, Params: []impl.Param{{}, param("", true, -8)}}},
			Uses:    []impl.Use{{}, {}, {Mod: "none", Name: strings.Repeat("x", 1000)}},
		}
	}
	wantSameScope(t, odd(), odd(), true)
	for i, change := range []func(s *impl.Scope){
		func(s *impl.Scope) { s.Name = "not a nam" },
		func(s *impl.Scope) { s.Imports[1] = "x" },
		func(s *impl.Scope) { s.Imports = s.Imports[:2] },
		func(s *impl.Scope) { s.Types[0].Kind = 7 },
		func(s *impl.Scope) { s.Types[0].Long-- },
		func(s *impl.Scope) { s.Types[0].Base++ },
		func(s *impl.Scope) { s.Types[0].Owner = "" },
		func(s *impl.Scope) { s.Types[0].Name = "-" },
		func(s *impl.Scope) { s.Types[0].Fields[1].Name = "" },
		func(s *impl.Scope) { s.Types[0].Fields[1].Mark = 9 },
		func(s *impl.Scope) { s.Types[0].Fields[1].Type-- },
		func(s *impl.Scope) { s.Types[0].Fields = s.Types[0].Fields[:1] },
		func(s *impl.Scope) { s.Types[0].Fields = nil },
		func(s *impl.Scope) { s.Types = nil },
		func(s *impl.Scope) { s.Types = append(s.Types, impl.Type{}) },
		func(s *impl.Scope) { s.Objects[1].Name = "x" },
		func(s *impl.Scope) { s.Objects[1].Kind = 98 },
		func(s *impl.Scope) { s.Objects[1].Mark = 1 },
		func(s *impl.Scope) { s.Objects[1].Type++ },
		func(s *impl.Scope) { s.Objects[1].Value-- },
		func(s *impl.Scope) { s.Objects[1].Params[1].Name = "x" },
		func(s *impl.Scope) { s.Objects[1].Params[1].ByVar = false },
		func(s *impl.Scope) { s.Objects[1].Params[1].Type = 8 },
		func(s *impl.Scope) { s.Objects[1].Params = s.Objects[1].Params[1:] },
		func(s *impl.Scope) { s.Objects = s.Objects[1:] },
		func(s *impl.Scope) { s.Uses[2].Mod = "None" },
		func(s *impl.Scope) { s.Uses[2].Name += "x" },
		func(s *impl.Scope) { s.Uses = s.Uses[:2] },
	} {
		other := changedScope(odd(), change)
		if impl.SameScope(odd(), other) || impl.SameScope(other, odd()) || !impl.SameScope(other, copyOfScope(other)) {
			t.Errorf("change %d is not seen", i)
		}
	}
	wantGoodScope(t, odd(), false)
	many := odd()
	many.Objects = make([]impl.Object, 200000)
	other := copyOfScope(many)
	wantSameScope(t, many, other, true)
	other.Objects[199999].Value = 1
	if impl.SameScope(many, other) {
		t.Error("the last one of many is not looked at")
	}
}

// renumberedScope tells a scope with its types in another order.
func renumberedScope(s impl.Scope, order []int) impl.Scope {
	s = copyOfScope(s)
	s.Types = renumbered(s.Types, order)
	for i, object := range s.Objects {
		if object.Type >= 0 {
			s.Objects[i].Type = order[object.Type]
		}
		for k, p := range object.Params {
			s.Objects[i].Params[k].Type = order[p.Type]
		}
	}
	return s
}

func TestTypesNumberedOtherwise(t *testing.T) {
	s := fullScope()
	turned := renumberedScope(s, []int{0, 1, 2, 10, 9, 8, 7, 6, 5, 4, 3})
	wantSameScope(t, s, turned, false)
	wantAlike(t, s, turned, true, true)
	for x := range s.Objects {
		for y := range s.Objects {
			wantAlikeObjects(t, s, x, turned, y, x == y, true)
		}
	}
	wantExport(t, turned, exportOfFull())
	// One table may tell as two types what another one tells as one.
	one := scopeOf(tableOf(arrayOf(2, 0)), procOf("p", 1, 3, param("a", true, 3)))
	two := scopeOf(tableOf(arrayOf(2, 0), arrayOf(2, 0)), procOf("p", 1, 4, param("a", true, 3)))
	wantAlike(t, one, two, true, true)
	wantAlikeObjects(t, one, 0, two, 0, true, true)
	wantPromised(t, two)
	two.Types[3].Long = 3
	wantAlike(t, one, two, false, true)
	// Where the numbers are the same the types may not be alike.
	for _, object := range someObjects(impl.MkFull)[1:4] {
		a, b := scopeOf(mixedTypes(), object), scopeOf(mixedTypes(), object)
		b.Types[5].Base = -1
		wantAlikeObjects(t, a, 0, b, 0, false, true)
		wantAlike(t, a, b, false, true)
	}
}

func TestTypesOfProcsThatHaveNone(t *testing.T) {
	of := func(n int) impl.Scope { return scopeOf(mixedTypes(), procOf("p", 1, n, param("a", false, 0))) }
	for _, x := range []int{-1, 0, 1, 3, 9, 10} {
		for _, y := range []int{-1, 0, 1, 3, 9, 10} {
			wantAlikeObjects(t, of(x), 0, of(y), 0, x == y, true)
			wantAlike(t, of(x), of(y), x == y, true)
		}
	}
}

// TestUnlikeInTheEnd: what comes first is alike, so that types are held so, and what comes last is not.
func TestUnlikeInTheEnd(t *testing.T) {
	of := func(mark int) impl.Scope {
		return scopeOf(tableOf(
			recordOf(-1, field("a", 1, 4)), pointerTo(3),
			recordOf(-1, field("a", 1, 4), field("b", 1, 6)), pointerTo(7),
			recordOf(-1, field("c", mark, 6), field("d", 1, 4))),
			varOf("a", 1, 4), varOf("b", 1, 3), varOf("c", 1, 5), varOf("d", 1, 6), procOf("e", 1, -1, param("x", true, 4), param("y", true, 7)))
	}
	wantPromised(t, of(1))
	wantAlike(t, of(1), of(1), true, true)
	wantAlike(t, of(1), of(2), false, true)
	for n := range 5 {
		wantAlikeObjects(t, of(1), n, of(2), n, n < 2, true)
		wantAlikeObjects(t, of(2), n, of(2), n, true, true)
	}
	for n := range 5 {
		cut := func(mark int) impl.Scope {
			s := of(mark)
			s.Objects = s.Objects[n:]
			return s
		}
		wantAlike(t, cut(1), cut(2), false, true)
	}
}

func TestNumbersOfObjects(t *testing.T) {
	s := fullScope()
	for _, n := range []int{-1, -2, len(s.Objects), len(s.Objects) + 1, impl.MaxObjects, 1000, 1 << 32, math.MaxInt, math.MinInt} {
		for m := range s.Objects {
			wantAlikeObjects(t, s, n, s, m, false, false)
		}
		wantAlikeObjects(t, s, n, s, n, false, false)
		wantAlikeObjects(t, s, n, scopeOf(impl.BaseTypes()), n, false, false)
	}
	wantAlikeObjects(t, s, 0, scopeOf(impl.BaseTypes()), 0, false, false)
	// A number may be in one scope and not in the other.
	short := s
	short.Objects = s.Objects[:4]
	wantAlikeObjects(t, s, 3, short, 3, true, true)
	wantAlikeObjects(t, s, 4, short, 4, false, false)
	wantAlikeObjects(t, s, 4, short, 3, false, true)
}

// badScopes tell ways in which a scope may not be good.
func badScopes() []impl.Scope {
	var l []impl.Scope
	for _, w := range scopeChanges {
		if !w.good {
			l = append(l, changedScope(fullScope(), w.change))
		}
	}
	for _, types := range badTables() {
		l = append(l, changedScope(fullScope(), func(s *impl.Scope) { s.Types = copyOf(types) }))
	}
	for _, change := range []func(s *impl.Scope){
		func(s *impl.Scope) { s.Imports[1] = "A" },
		func(s *impl.Scope) { s.Imports = []string{"B", "Cc", "B"} },
		func(s *impl.Scope) { s.Imports = append(s.Imports, "D", "E", "F") },
		func(s *impl.Scope) { s.Objects[4].Name = "B" },
		func(s *impl.Scope) { s.Objects[4].Name = "R" },
		func(s *impl.Scope) { s.Objects[4].Name = "R " },
		func(s *impl.Scope) { s.Objects[4] = impl.Object{} },
		func(s *impl.Scope) { s.Objects[8].Params[1].Name = "in" },
		func(s *impl.Scope) { s.Objects[8].Params[1].Type = 11 },
		func(s *impl.Scope) { s.Objects[8].Params = slices.Repeat(s.Objects[8].Params, 3) },
		func(s *impl.Scope) { s.Objects[8].Value = 1 },
		func(s *impl.Scope) { s.Objects[1].Type = -1 },
		func(s *impl.Scope) { s.Objects[2].Type = 1 },
		func(s *impl.Scope) { s.Objects[2].Mark = impl.MkRead },
		func(s *impl.Scope) { s.Uses[2] = s.Uses[0] },
		func(s *impl.Scope) { s.Uses[2].Mod = "D" },
		func(s *impl.Scope) { s.Uses[2].Name = "" },
	} {
		l = append(l, changedScope(fullScope(), change))
	}
	return append(l, impl.Scope{}, impl.Scope{Name: "A"}, impl.Scope{Types: impl.BaseTypes()})
}

func TestScopesThatAreNotGood(t *testing.T) {
	for i, s := range badScopes() {
		if impl.GoodScope(s) {
			t.Errorf("bad scope %d is good", i)
		}
		wantGoodScope(t, s, false)
	}
}

// callAllOf calls each function that takes scopes.
func callAllOf(a, b impl.Scope) {
	impl.GoodScope(a)
	impl.ExportOf(a)
	impl.IsExport(a)
	impl.ShownNames(a)
	impl.SameScope(a, b)
	impl.AlikeScopes(a, b)
	for _, name := range []string{"R", "find", "none", ""} {
		impl.ObjectAt(a, name)
	}
	for n := -1; n <= min(len(a.Objects), 20); n++ {
		impl.AlikeObjects(a, n, b, n)
		impl.AlikeObjects(a, n, b, len(b.Objects)-1-n)
	}
}

func TestScopesAreNotWrittenInto(t *testing.T) {
	turned := renumberedScope(fullScope(), []int{0, 1, 2, 10, 9, 8, 7, 6, 5, 4, 3})
	for i, s := range append(badScopes(), fullScope(), exportOfFull(), turned) {
		for _, other := range []impl.Scope{fullScope(), exportOfFull(), s} {
			before, kept := copyOfScope(s), copyOfScope(other)
			callAllOf(s, other)
			callAllOf(other, s)
			if !reflect.DeepEqual(s, before) || !reflect.DeepEqual(other, kept) {
				t.Fatalf("scope %d is written into", i)
			}
		}
	}
}

// behind tells a list with more behind its length in its memory, and all of that memory.
func behind[T any](l []T, more ...T) ([]T, []T) {
	room := slices.Concat(l, more, more)
	return room[:len(l)], room
}

// laidApart tells a scope the lists of which lie in memory that goes on behind them, and a function
// that tells whether that memory is as it was.
func laidApart(s impl.Scope) (impl.Scope, func() bool) {
	var kept []func() bool
	keep := func(room, before any) {
		kept = append(kept, func() bool { return reflect.DeepEqual(room, before) })
	}
	s = copyOfScope(s)
	for i := range s.Types {
		fields, room := behind(s.Types[i].Fields, field("far", 1, 0))
		s.Types[i].Fields = fields
		keep(room, slices.Clone(room))
	}
	for i := range s.Objects {
		params, room := behind(s.Objects[i].Params, param("far", true, 0))
		s.Objects[i].Params = params
		keep(room, slices.Clone(room))
	}
	imports, importRoom := behind(s.Imports, "Far")
	types, typeRoom := behind(s.Types, calledSo(recordOf(-1), "B", "R"))
	objects, objectRoom := behind(s.Objects, constOf("far", 1, 1))
	uses, useRoom := behind(s.Uses, impl.Use{Mod: "B", Name: "far"})
	keep(importRoom, slices.Clone(importRoom))
	keep(typeRoom, slices.Clone(typeRoom))
	keep(objectRoom, slices.Clone(objectRoom))
	keep(useRoom, slices.Clone(useRoom))
	return impl.Scope{Name: s.Name, Imports: imports, Types: types, Objects: objects, Uses: uses}, func() bool {
		return !slices.ContainsFunc(kept, func(same func() bool) bool { return !same() })
	}
}

func TestWhatLiesBehindScopes(t *testing.T) {
	s, same := laidApart(fullScope())
	wantPromised(t, s)
	wantExport(t, s, exportOfFull())
	wantObject(t, s, "far", 0, false)
	wantAlike(t, s, fullScope(), true, true)
	wantSameScope(t, s, fullScope(), true)
	callAllOf(s, s)
	if !same() {
		t.Error("what lies behind the lists of a scope is written into")
	}
}

// span is a stretch of memory.
type span struct {
	from, to uintptr
}

func spanOf[T any](l []T) span {
	var one T
	from := uintptr(unsafe.Pointer(unsafe.SliceData(l)))
	return span{from, from + uintptr(cap(l))*unsafe.Sizeof(one)}
}

// spansOf tells the memory of all lists of a scope, with what lies behind their lengths.
func spansOf(s impl.Scope) []span {
	l := []span{spanOf(s.Imports), spanOf(s.Types), spanOf(s.Objects), spanOf(s.Uses)}
	for _, one := range s.Types {
		l = append(l, spanOf(one.Fields))
	}
	for _, one := range s.Objects {
		l = append(l, spanOf(one.Params))
	}
	return slices.DeleteFunc(l, func(p span) bool { return p.from == p.to })
}

// textsOf tells all texts of a scope but those of the first three types.
func textsOf(s impl.Scope) []string {
	l := append([]string{s.Name}, s.Imports...)
	for _, one := range s.Types[3:] {
		l = append(l, one.Owner, one.Name)
		for _, f := range one.Fields {
			l = append(l, f.Name)
		}
	}
	for _, one := range s.Objects {
		l = append(l, one.Name)
		for _, p := range one.Params {
			l = append(l, p.Name)
		}
	}
	return l
}

// withOwnTexts tells a scope with each text in memory of its own.
func withOwnTexts(s impl.Scope) impl.Scope {
	s = copyOfScope(s)
	s.Name = strings.Clone(s.Name)
	for i := range s.Types[3:] {
		one := &s.Types[3+i]
		one.Owner, one.Name = strings.Clone(one.Owner), strings.Clone(one.Name)
		for k := range one.Fields {
			one.Fields[k].Name = strings.Clone(one.Fields[k].Name)
		}
	}
	for i := range s.Objects {
		s.Objects[i].Name = strings.Clone(s.Objects[i].Name)
		for k := range s.Objects[i].Params {
			s.Objects[i].Params[k].Name = strings.Clone(s.Objects[i].Params[k].Name)
		}
	}
	return s
}

func TestExportsAreNewMemory(t *testing.T) {
	for _, s := range []impl.Scope{withOwnTexts(fullScope()), withOwnTexts(exportOfFull()), scopeOf(impl.BaseTypes())} {
		first, _ := impl.ExportOf(s)
		second, _ := impl.ExportOf(s)
		all := slices.Concat(spansOf(s), spansOf(first), spansOf(second))
		for i, one := range all {
			for k, other := range all[:i] {
				if one.from < other.to && other.from < one.to {
					t.Fatalf("lists %d and %d share memory", i, k)
				}
			}
		}
		for _, text := range textsOf(first) {
			for _, given := range textsOf(s) {
				if overlap(text, given) {
					t.Fatalf("%q is a part of the argument", text)
				}
			}
		}
		before := copyOfScope(s)
		clear(first.Types[:cap(first.Types)])
		clear(first.Objects[:cap(first.Objects)])
		if !reflect.DeepEqual(s, before) || !sameByHand(second, exportOf(t, s)) {
			t.Error("an answer is kept")
		}
	}
}

func exportOf(t *testing.T, s impl.Scope) impl.Scope {
	t.Helper()
	export, ok := impl.ExportOf(s)
	if !ok {
		t.Fatalf("no export of %v", s)
	}
	return export
}

func TestShownNamesAreNewMemory(t *testing.T) {
	s := withOwnTexts(fullScope())
	first, _ := impl.ShownNames(s)
	second, _ := impl.ShownNames(s)
	for _, name := range first {
		for _, given := range textsOf(s) {
			if overlap(name, given) {
				t.Fatalf("%q is a part of the argument", name)
			}
		}
	}
	clear(first[:cap(first)])
	if !slices.Equal(second, []string{"list", "least", "R", "free", "run", "find"}) || !sameByHand(s, fullScope()) {
		t.Error("the answer is kept", second)
	}
}
