package tests

import (
	"fmt"
	"reflect"
	"regexp"
	"slices"
	"strconv"
	"strings"
	"testing"

	"loop.example/g00837/impl"
)

// rewriting tells types and objects step by step: a number in angles stands for a type that is not told
// yet, with ^ ahead for one that a pointer points to, and with = for one that is told as if it had no
// Name. own is the name of the module of which the source is told, and empty in an outline.
type rewriting struct {
	types []impl.Type
	own   string
}

var openForm = regexp.MustCompile(`<([\^=]?)(\d+)>`)

// whole puts what is told of a type in the place of each number, the first one ahead, as long as what is
// told by then is not too long.
func (m rewriting) whole(text string, most int) (string, bool) {
	told := ""
	for {
		at := openForm.FindStringSubmatchIndex(text)
		if at == nil {
			told += text
			return told, len(told) <= most
		}
		told += text[:at[0]]
		if len(told) > most {
			return "", false
		}
		n, _ := strconv.Atoi(text[at[4]:at[5]])
		text = m.step(text[at[2]:at[3]], n) + text[at[1]:]
	}
}

func (m rewriting) step(sign string, n int) string {
	one := m.types[n]
	switch {
	case one.Name != "" && sign != "=" && one.Owner == m.own:
		return one.Name
	case one.Name != "" && sign != "=" && n >= 3:
		return one.Owner + "." + one.Name
	case n < 3:
		return []string{"INT", "BOOL", "CHAR"}[n]
	case sign == "^" && m.own == "":
		return ".."
	case one.Kind == impl.KdArray:
		return fmt.Sprintf("ARRAY %d OF <%d>", one.Long, one.Base)
	case one.Kind == impl.KdPointer:
		return fmt.Sprintf("POINTER TO <^%d>", one.Base)
	}
	base := ""
	if one.Base >= 0 {
		base = fmt.Sprintf(" (<%d>)", one.Base)
	}
	var fields []string
	for _, f := range one.Fields {
		name := f.Name
		if name == "" {
			name = "_"
		}
		fields = append(fields, fmt.Sprintf(" %s%s: <%d>", name, []string{"", "*", "-"}[f.Mark], f.Type))
	}
	return "RECORD" + base + strings.Join(fields, ";") + " END"
}

// object tells an object, the types of which are not told yet.
func (m rewriting) object(o impl.Object) string {
	head := o.Name + []string{"", "*", "-"}[o.Mark]
	switch o.Kind {
	case impl.ObConst:
		return fmt.Sprintf("CONST %s = %d", head, o.Value)
	case impl.ObVar:
		return fmt.Sprintf("VAR %s: <%d>", head, o.Type)
	case impl.ObType:
		if of := m.types[o.Type]; m.own != "" && of.Owner == m.own && of.Name == o.Name {
			return fmt.Sprintf("TYPE %s = <=%d>", head, o.Type)
		}
		return fmt.Sprintf("TYPE %s = <%d>", head, o.Type)
	}
	var params []string
	for _, p := range o.Params {
		params = append(params, fmt.Sprintf("%s%s: <%d>", map[bool]string{true: "VAR "}[p.ByVar], p.Name, p.Type))
	}
	text := fmt.Sprintf("PROC %s (%s)", head, strings.Join(params, "; "))
	if o.Type >= 0 {
		text += fmt.Sprintf(": <%d>", o.Type)
	}
	return text
}

// mostByHand is enough for all texts that are told step by step here.
const mostByHand = 200000

// outlineByHand tells the outline of a good scope.
func outlineByHand(s impl.Scope) (string, bool) {
	m := rewriting{s.Types, ""}
	text := "MODULE " + s.Name
	for _, o := range s.Objects {
		if o.Mark != 0 {
			text += "\n" + m.object(o)
		}
	}
	return m.whole(text+"\n", mostByHand)
}

// sourceByHand tells the source of a good scope, which the walk of chapter 6 must take, and as that scope.
func sourceByHand(s impl.Scope) (string, bool) {
	if len(s.Imports)+len(s.Uses) > 0 {
		return "", false
	}
	m := rewriting{s.Types, s.Name}
	text := "MODULE " + s.Name + ";"
	for _, o := range s.Objects {
		text += " " + m.object(o) + ";"
	}
	text, ok := m.whole(text+" END "+s.Name+".", 1200)
	if !ok {
		return "", false
	}
	again, _, _, ok := compileByWalk(text, nil)
	if !ok || !sameByHand(again, s) {
		return "", false
	}
	return text, true
}

// wantTypeText asks for the text of a type, and for that alone.
func wantTypeText(t *testing.T, l []impl.Type, n int, want string, good bool) {
	t.Helper()
	if got, ok := impl.TypeText(l, n); got != want || ok != good {
		t.Errorf("TypeText(%v, %d) = %q, %v, want %q, %v", l, n, got, ok, want, good)
	}
}

func wantObjectText(t *testing.T, s impl.Scope, n int, want string, good bool) {
	t.Helper()
	if got, ok := impl.ObjectText(s, n); got != want || ok != good {
		t.Errorf("ObjectText(%v, %d) = %q, %v, want %q, %v", s, n, got, ok, want, good)
	}
}

func wantOutline(t *testing.T, s impl.Scope, want string, good bool) {
	t.Helper()
	if got, ok := impl.OutlineText(s); got != want || ok != good {
		t.Errorf("OutlineText(%v) = %q, %v, want %q, %v", s, got, ok, want, good)
	}
}

func wantSource(t *testing.T, s impl.Scope, want string, good bool) {
	t.Helper()
	if got, ok := impl.SourceText(s); got != want || ok != good {
		t.Errorf("SourceText(%v) = %q, %v, want %q, %v", s, got, ok, want, good)
	}
}

func wantNamesShown(t *testing.T, text string, names []string, good bool) {
	t.Helper()
	if got, ok := impl.NamesShown(text); !slices.Equal(got, names) || ok != good {
		t.Errorf("NamesShown(%q) = %v, %v, want %v, %v", text, got, ok, names, good)
	}
}

// checkTypeTexts asks for the texts of all types of a table, and tells whether it is good.
func checkTypeTexts(t *testing.T, l []impl.Type) bool {
	t.Helper()
	good := modelOf(l).good
	for n := range l[:min(len(l), 30)] {
		want := ""
		if good {
			want, _ = rewriting{l, ""}.whole(fmt.Sprintf("<%d>", n), mostByHand)
		}
		wantTypeText(t, l, n, want, good)
	}
	for _, n := range outsideOf(l) {
		wantTypeText(t, l, n, "", false)
	}
	return good
}

// wantNoTexts asks for the zero answers of a scope that is not good.
func wantNoTexts(t *testing.T, s impl.Scope) {
	t.Helper()
	for n := -1; n <= min(len(s.Objects), 20); n++ {
		wantObjectText(t, s, n, "", false)
	}
	wantOutline(t, s, "", false)
	wantSource(t, s, "", false)
}

// checkOutline asks for all texts of a scope, and tells whether it is good.
func checkOutline(t *testing.T, s impl.Scope) bool {
	t.Helper()
	if !scopeByForm(s) {
		wantNoTexts(t, s)
		return false
	}
	m := rewriting{s.Types, ""}
	for n, o := range s.Objects {
		text, ok := m.whole(m.object(o), mostByHand)
		wantObjectText(t, s, n, text, ok)
	}
	for _, n := range []int{-1, -2, len(s.Objects), len(s.Objects) + 1, 16, 1 << 32, -1 << 63, 1<<63 - 1} {
		if n < 0 || n >= len(s.Objects) {
			wantObjectText(t, s, n, "", false)
		}
	}
	text, ok := outlineByHand(s)
	wantOutline(t, s, text, ok)
	checkSource(t, s)
	return true
}

// checkSource asks for the source of a good scope, and for promise 14, and tells whether there is one.
func checkSource(t *testing.T, s impl.Scope) bool {
	t.Helper()
	text, good := sourceByHand(s)
	wantSource(t, s, text, good)
	if !good {
		return false
	}
	again, code, at, ok := impl.Compile(text, nil)
	if code != 0 || at != 0 || !ok || !impl.SameScope(again, s) || !sameByHand(again, s) {
		t.Fatalf("Compile(%q) = %v, %d, %d, %v, want %v", text, again, code, at, ok, s)
	}
	wantSource(t, again, text, true)
	names, _ := impl.ShownNames(s)
	wantNamesShown(t, text, names, true)
	return true
}

// checkShownIn asks for the names that any text shows, and tells whether it is taken.
func checkShownIn(t *testing.T, text string) bool {
	t.Helper()
	s, _, _, good := compileByWalk(text, nil)
	var names []string
	for _, o := range s.Objects {
		if o.Mark != 0 {
			names = append(names, o.Name)
		}
	}
	wantNamesShown(t, text, names, good)
	return good
}

// alone tells a scope of which nothing hangs on other modules, and most types with a name are its own.
func (r *row) alone(s impl.Scope) impl.Scope {
	s = copyOfScope(s)
	s.Imports, s.Uses = nil, nil
	for n := range s.Types[min(3, len(s.Types)):] {
		if one := &s.Types[3+n]; one.Owner != "" && r.below(10) > 0 {
			one.Owner = s.Name
		}
	}
	return s
}

// turnedTypes tells a scope with two of its types in the place of one another.
func (r *row) turnedTypes(s impl.Scope) impl.Scope {
	if len(s.Types) < 5 {
		return s
	}
	order := numbersOf(s.Types)
	n, m := 3+r.below(len(order)-3), 3+r.below(len(order)-3)
	order[n], order[m] = m, n
	return renumberedScope(s, order)
}

// hardlyOther tells a scope that is otherwise in one thing that a source may tell or not.
func (r *row) hardlyOther(s impl.Scope) impl.Scope {
	s = copyOfScope(s)
	one := &s.Types[r.below(len(s.Types))]
	own := len(s.Types) > 3 && r.below(3) > 0
	if own {
		one = &s.Types[3+r.below(len(s.Types)-3)]
	}
	switch choice := r.below(10); {
	case choice == 0:
		return r.turnedTypes(s)
	case choice == 1:
		return r.turnedObjects(s)
	case choice == 2:
		s.Types = append(s.Types, arrayOf(2, 0))
	case choice == 3 && own:
		one.Owner, one.Name = "", ""
	case choice == 4 && own:
		one.Owner, one.Name = s.Name, "N"
	case choice == 5 && len(one.Fields) > 0:
		f := &one.Fields[r.below(len(one.Fields))]
		f.Name, f.Mark = []string{"", "q", "MODULE", "INT"}[r.below(4)], 0
	case choice == 6 && len(one.Fields) > 0:
		one.Fields[r.below(len(one.Fields))].Mark = 1 + r.below(2)
	case choice == 7 && own:
		one.Base = r.below(len(s.Types))
	case choice == 8:
		s.Name = []string{"Z", "END", "INT"}[r.below(3)]
	default:
		return r.changedObject(s)
	}
	return s
}

// TestManySources writes modules that import nothing: each that is taken has a source, unless that is
// too long or has a number that no text has; and holds scopes that are nearly such to the model.
func TestManySources(t *testing.T) {
	g := &scribe{row: &row{seed: 83}}
	counts := map[string]int{}
	for range 4000 {
		text := g.module(g.one("A", "B", "R", "moduleName"), nil)
		switch g.below(40) {
		case 0, 1, 2, 3, 4, 5, 6, 7:
			text = g.spoilt(text)
		case 8:
			// One more or one less than a text can say.
			text = strings.Replace(text, " ; ", " ; CONST z8 * = "+g.one("", "- ")+"999999999 "+g.one("+", "-")+" 1 ; ", 1)
		}
		if !checkShownIn(t, text) {
			counts["not taken"]++
			continue
		}
		s, _, _, _ := impl.Compile(text, nil)
		if !checkOutline(t, s) {
			t.Fatalf("%v of %q is not good", s, text)
		}
		if source, ok := impl.SourceText(s); ok {
			counts["source"]++
			for range 2 {
				checkShownIn(t, g.spoilt(source))
			}
		} else if !slices.ContainsFunc(s.Objects, func(o impl.Object) bool { return !isIn(o.Value, -999999999, 999999999) }) {
			t.Fatalf("no source of %q", text)
		} else {
			counts["great number"]++
		}
		export := exportOf(t, s)
		if checkOutline(t, export); checkSource(t, export) {
			counts["export"]++
		}
		for range 3 {
			other := g.hardlyOther(s)
			if !checkOutline(t, other) {
				counts["not good"]++
			} else if checkSource(t, other) {
				counts["other source"]++
			} else {
				counts["no source"]++
			}
		}
	}
	t.Log(counts)
	for what, least := range map[string]int{"not taken": 500, "source": 1500, "great number": 5, "export": 100, "not good": 200, "other source": 800, "no source": 1000} {
		if counts[what] < least {
			t.Errorf("%s came %d times", what, counts[what])
		}
	}
}

// TestManyOutlines makes scopes and types of all sorts, good and not.
func TestManyOutlines(t *testing.T) {
	r := &row{seed: 89}
	counts := map[string]int{}
	for range 3000 {
		s := r.someScope()
		checkTypeTexts(t, s.Types)
		if !checkOutline(t, s) {
			counts["not good"]++
			continue
		}
		counts["good"]++
		alone := r.alone(s)
		if checkOutline(t, alone) && checkSource(t, alone) {
			counts["source"]++
		}
		for _, other := range []impl.Scope{r.changed(s), r.changedObject(s), r.otherwiseHidden(s), exportOf(t, s)} {
			if checkTypeTexts(t, other.Types); checkOutline(t, other) && other.Name != "" {
				counts["other"]++
			}
		}
	}
	t.Log(counts)
	if min(counts["good"], counts["other"]) < 1500 || counts["not good"] < 200 || counts["source"] < 50 {
		t.Error("too few scopes of each sort", counts)
	}
}

// TestTextsOfAllSmallTables asks for the texts of all tables of at most two types behind the first three.
func TestTextsOfAllSmallTables(t *testing.T) {
	good := 0
	for _, one := range smallTypes() {
		checkTypeTexts(t, tableOf(one))
		for _, other := range smallTypes() {
			l := tableOf(one, other)
			if !checkTypeTexts(t, l) {
				continue
			}
			good++
			for _, s := range []impl.Scope{
				{Name: "M", Types: l, Objects: []impl.Object{typeOf("T", 1, 3), typeOf("U", 0, 4)}},
				{Name: "M", Types: l, Objects: []impl.Object{varOf("v", 2, 3), varOf("w", 1, 4)}},
				{Name: "N", Types: l, Objects: []impl.Object{procOf("p", 1, 4, param("a", true, 3)), typeOf("T", 1, 4)}},
			} {
				if !checkOutline(t, s) {
					t.Fatalf("%v is not good", s)
				}
			}
		}
	}
	if good < 500 {
		t.Error("too few tables are good to tell much", good)
	}
}

// callOutline calls each function of the chapter.
func callOutline(s impl.Scope, n int, text string) {
	impl.TypeText(s.Types, n)
	impl.ObjectText(s, n)
	impl.OutlineText(s)
	impl.SourceText(s)
	impl.NamesShown(text)
}

// TestOutlinesAnswerAnything: a panic fails, and so does an argument that is written into.
func TestOutlinesAnswerAnything(t *testing.T) {
	r := &row{seed: 97}
	some := append([]int{-3, -2, -1, 0, 1, 2, 3, 4, 5, 6, 16, 17, 24, 1000, 1001, 1 << 32}, farNumbers...)
	texts := append([]string{"x", "INT", "A", "M", "a b", "_", ".", "abcdefghij"}, badNames...)
	any := func() int { return some[r.below(len(some))] }
	text := func() string { return texts[r.below(len(texts))] }
	for range 3000 {
		s := r.alone(r.changedObject(r.changed(r.someScope())))
		for range r.below(3) {
			one := impl.Type{Kind: any(), Long: any(), Base: any(), Owner: text(), Name: text()}
			for range r.below(8) {
				one.Fields = append(one.Fields, field(text(), any(), any()))
			}
			s.Types = append(s.Types, one)
		}
		for range r.below(3) {
			s.Objects = append(s.Objects, impl.Object{Name: text(), Kind: any(), Mark: any(), Type: any(), Value: any(), Params: []impl.Param{param(text(), true, any())}})
		}
		if r.below(4) == 0 {
			s = impl.Scope{Name: text(), Types: s.Types[:r.below(len(s.Types))], Imports: []string{text()}, Objects: make([]impl.Object, r.below(20)), Uses: make([]impl.Use, r.below(50))}
		}
		before := copyOfScope(s)
		checkTypeTexts(t, s.Types)
		checkOutline(t, s)
		checkShownIn(t, text())
		callOutline(s, any(), text())
		if !reflect.DeepEqual(s, before) {
			t.Fatalf("%v is written into", before)
		}
	}
}
