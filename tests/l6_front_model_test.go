package tests

import (
	"slices"
	"strconv"
	"strings"
	"testing"

	"loop.example/g00837/impl"
)

// frontGrammar is the grammar of the document: each rule by its forms, {} and [] as rules of their own.
var frontGrammar = map[string][]string{
	"module":  {"MODULE name ; opening decls END name ."},
	"opening": {"", "IMPORT name imports ;"}, "imports": {"", ", name imports"}, "decls": {"", "decl decls"},
	"decl": {"CONST name mark = expr ;", "TYPE name mark = type ;", "VAR name mark : type ;", "USE qual ;", "PROC name mark ( params ) result ;"},
	"mark": {"", "*", "-"}, "params": {"", "param more-params"}, "more-params": {"", "; param more-params"},
	"param": {"name : type", "VAR name : type"}, "result": {"", ": type"}, "qual": {"name second"}, "second": {"", ". name"},
	"type": {"qual", "ARRAY expr OF type", "RECORD base fields END", "POINTER TO type"}, "base": {"", "( qual )"},
	"fields": {"", "field more-fields"}, "more-fields": {"", "; field more-fields"}, "field": {"name mark : type"},
	"expr": {"term terms"}, "terms": {"", "+ expr", "- expr"}, "term": {"factor factors"}, "factors": {"", "* term", "DIV term", "MOD term"},
	"factor": {"number", "qual", "( expr )", "- factor"},
}

// ahead tells all ways to go on, each with a token in front, or none at all at the end.
func ahead(way string) []string {
	first, rest, _ := strings.Cut(way, " ")
	forms, is := frontGrammar[first]
	if !is {
		return []string{way}
	}
	var ways []string
	for _, form := range forms {
		ways = append(ways, ahead(strings.TrimSpace(form+" "+rest))...)
	}
	return ways
}

// strayOf tells the number of the first token that can not stand where it does, one more than all
// where they end too early, and -1 where they are a module.
func strayOf(l []impl.Token) int {
	ways := ahead("module")
	for n, token := range l {
		word := token.Text
		if token.Kind == impl.TkName {
			word = "name"
		}
		if token.Kind == impl.TkNumber {
			word = "number"
		}
		var left []string
		for _, way := range ways {
			if first, rest, _ := strings.Cut(way, " "); first == word {
				left = append(left, ahead(rest)...)
			}
		}
		if len(left) == 0 {
			return n
		}
		ways = left
	}
	if slices.Contains(ways, "") {
		return -1
	}
	return len(l)
}

// met is a code, and the number of the token where it is told.
type met struct {
	code, token int
}

// walk goes through the tokens ahead of the first stray one, of which it asks nothing any more but what
// they name. A type is open until all that it is told by is known.
type walk struct {
	l    []impl.Token
	at   int
	mods []impl.Scope
	s    impl.Scope
	open map[int]bool
	late [][2]int
	// stray tells whether a token that can not stand, or the end, is behind all these tokens.
	stray bool
}

func compileByWalk(text string, mods []impl.Scope) (s impl.Scope, code, at int, ok bool) {
	l, code, at, ok := impl.ReadTokens(text)
	if !ok {
		return impl.Scope{}, 10 + code, at, false
	}
	stray := strayOf(l)
	w := &walk{l: l, mods: mods, open: map[int]bool{}}
	if stray >= 0 {
		w.l, w.stray = l[:stray], true
	}
	if fault := w.all(); fault.code != 0 {
		place := len(text)
		if fault.token < len(l) {
			place = l[fault.token].At
		}
		return impl.Scope{}, fault.code, place, false
	}
	return w.s, 0, 0, true
}

func (w *walk) all() (fault met) {
	defer func() {
		if thrown := recover(); thrown != nil {
			fault = thrown.(met)
		}
	}()
	w.module()
	return met{}
}

func (w *walk) peek() string {
	if w.at == len(w.l) {
		return ""
	}
	return w.l[w.at].Text
}

// take passes a token; where there is none the stray one is next.
func (w *walk) take() string {
	if w.at == len(w.l) {
		panic(met{20, w.at})
	}
	w.at++
	return w.l[w.at-1].Text
}

// check tells a code of the token that was passed last.
func (w *walk) check(bad bool, code int) {
	if bad {
		panic(met{code, w.at - 1})
	}
}

func (w *walk) module() {
	w.take()
	w.s = impl.Scope{Name: w.take(), Types: impl.BaseTypes()}
	w.take()
	if w.peek() == "IMPORT" {
		for w.take() != ";" {
			name := w.take()
			w.check(slices.Contains(w.s.Imports, name), 31)
			w.check(name == w.s.Name || !slices.ContainsFunc(w.mods, func(m impl.Scope) bool { return m.Name == name }), 35)
			w.check(len(w.s.Imports) == 4, 34)
			w.s.Imports = append(w.s.Imports, name)
		}
	}
	for word := w.take(); word != "END"; word = w.take() {
		if word == "USE" {
			w.use()
		} else {
			w.declaration(word)
		}
		w.take()
	}
	w.check(w.take() != w.s.Name, 21)
	w.take()
	w.checkAt(w.stray, 20, len(w.l))
	for _, one := range w.late {
		o, is := w.find("", w.l[one[1]].Text)
		w.at = one[1] + 1
		w.check(!is, 30)
		w.check(o.Kind != impl.ObType || w.s.Types[o.Type].Kind != impl.KdRecord && w.s.Types[o.Type].Kind != impl.KdArray, 32)
		w.s.Types[one[0]].Base = o.Type
	}
}

func (w *walk) use() {
	at := w.at
	mod, name := w.qual()
	_, is := w.find(mod, name)
	w.checkAt(!is, 30, at)
	w.noted(mod, name, at)
}

func (w *walk) checkAt(bad bool, code, token int) {
	if bad {
		panic(met{code, token})
	}
}

func (w *walk) noted(mod, name string, at int) {
	use := impl.Use{Mod: mod, Name: name}
	if mod != "" && !slices.Contains(w.s.Uses, use) {
		w.checkAt(len(w.s.Uses) == 40, 34, at)
		w.s.Uses = append(w.s.Uses, use)
	}
}

func (w *walk) qual() (string, string) {
	name := w.take()
	if w.peek() != "." {
		return "", name
	}
	w.take()
	return name, w.take()
}

// find tells what is declared by now, or what an import shows.
func (w *walk) find(mod, name string) (impl.Object, bool) {
	objects := w.s.Objects
	if mod != "" {
		objects = nil
		if slices.Contains(w.s.Imports, mod) {
			objects = w.modOf(mod).Objects
		}
	}
	for _, o := range objects {
		if o.Name == name {
			return o, true
		}
	}
	return impl.Object{}, false
}

func (w *walk) modOf(name string) impl.Scope {
	for _, m := range w.mods {
		if m.Name == name {
			return m
		}
	}
	return impl.Scope{}
}

func (w *walk) declaration(word string) {
	o := impl.Object{Name: w.take(), Kind: map[string]int{"CONST": 1, "TYPE": 2, "VAR": 3, "PROC": 4}[word]}
	_, is := w.find("", o.Name)
	w.check(is || slices.Contains(w.s.Imports, o.Name) || slices.Contains([]string{"INT", "BOOL", "CHAR"}, o.Name), 31)
	w.check(len(w.s.Objects) == 16, 34)
	o.Mark = w.mark()
	w.check(o.Mark == 2 && word != "VAR", 32)
	switch w.take() {
	case "(":
		o.Params, o.Type = w.params(), -1
		if w.peek() == ":" {
			w.take()
			o.Type = w.typ("")
		}
	case ":":
		o.Type = w.typ("")
	default:
		if word == "CONST" {
			o.Value = w.value()
		} else {
			o.Type = w.typ(o.Name)
		}
	}
	// A PROC without a type, cut off behind its bracket, is not there yet, and nothing can ask for it.
	w.s.Objects = append(w.s.Objects, o)
}

func (w *walk) mark() int {
	n := strings.Index("*-", w.peek())
	if w.peek() == "" || n < 0 {
		return 0
	}
	w.take()
	return n + 1
}

func (w *walk) params() []impl.Param {
	var l []impl.Param
	for w.peek() != ")" {
		if len(l) > 0 {
			w.take()
		}
		p := impl.Param{ByVar: w.peek() == "VAR"}
		if p.ByVar {
			w.take()
		}
		p.Name = w.take()
		w.check(slices.ContainsFunc(l, func(q impl.Param) bool { return q.Name == p.Name }), 31)
		w.check(len(l) == 4, 34)
		w.take()
		p.Type = w.typ("")
		l = append(l, p)
	}
	w.take()
	return l
}

// value cuts an expression out by what must stand behind it.
func (w *walk) value() int {
	from := w.at
	for w.at < len(w.l) && w.peek() != ";" && w.peek() != "OF" {
		w.at++
	}
	e, number, ok := impl.ReadExpr(w.l[from:w.at])
	w.checkAt(!ok && number != 0, 20, len(w.l))
	w.checkAt(!ok, 34, from)
	var known []impl.Known
	for _, step := range e {
		if step.Kind == impl.StName {
			o, is := w.find(step.Mod, step.Name)
			w.checkAt(!is, 30, from)
			w.checkAt(o.Kind != impl.ObConst, 32, from)
			w.noted(step.Mod, step.Name, from)
			known = append(known, impl.Known{Mod: step.Mod, Name: step.Name, Value: o.Value})
		}
	}
	value, code, _ := impl.EvalExpr(e, known)
	w.checkAt(code != 0, 33, from)
	return value
}

func (w *walk) typ(called string) int {
	from := w.at
	if !slices.Contains([]string{"ARRAY", "RECORD", "POINTER"}, w.peek()) {
		mod, name := w.qual()
		return w.named(mod, name, from)
	}
	word := w.take()
	n := len(w.s.Types)
	w.check(n == 24, 34)
	w.s.Types = append(w.s.Types, impl.Type{Base: -1, Name: called})
	if called != "" {
		w.s.Types[n].Owner = w.s.Name
	}
	w.open[n] = true
	switch word {
	case "ARRAY":
		w.array(n)
	case "RECORD":
		w.record(n)
	default:
		w.pointer(n)
		return n
	}
	delete(w.open, n)
	return n
}

func (w *walk) array(n int) {
	from := w.at
	long := w.value()
	w.checkAt(long < 1 || long > 1000, 33, from)
	w.take()
	base := w.typ("")
	w.s.Types[n].Kind, w.s.Types[n].Long, w.s.Types[n].Base = impl.KdArray, long, base
}

func (w *walk) record(n int) {
	base := -1
	if w.peek() == "(" {
		w.take()
		from := w.at
		mod, name := w.qual()
		base = w.named(mod, name, from)
		w.checkAt(w.s.Types[base].Kind != impl.KdRecord, 32, from)
		w.take()
	}
	var fields []impl.Field
	for w.peek() != "END" {
		if len(fields) > 0 {
			w.take()
		}
		f := impl.Field{Name: w.take()}
		w.check(slices.ContainsFunc(fields, func(g impl.Field) bool { return g.Name == f.Name }), 31)
		w.check(len(fields) == 6, 34)
		f.Mark = w.mark()
		w.take()
		f.Type = w.typ("")
		fields = append(fields, f)
	}
	w.take()
	w.s.Types[n].Kind, w.s.Types[n].Base, w.s.Types[n].Fields = impl.KdRecord, base, fields
}

// pointer leaves the type open where what it points to comes later.
func (w *walk) pointer(n int) {
	w.take()
	from := w.at
	name := w.peek()
	w.s.Types[n].Kind = impl.KdPointer
	if w.at < len(w.l) && w.l[w.at].Kind == impl.TkName && (w.at+1 == len(w.l) || w.l[w.at+1].Text != ".") {
		if _, is := w.find("", name); !is && !slices.Contains([]string{"INT", "BOOL", "CHAR"}, name) {
			w.take()
			w.late = append(w.late, [2]int{n, from})
			return
		}
	}
	base := w.typ("")
	kind := w.s.Types[base].Kind
	w.checkAt(kind != impl.KdRecord && kind != impl.KdArray, 32, from)
	w.s.Types[n].Base = base
	delete(w.open, n)
}

func (w *walk) named(mod, name string, from int) int {
	if n := slices.Index([]string{"INT", "BOOL", "CHAR"}, name); mod == "" && n >= 0 {
		return n
	}
	o, is := w.find(mod, name)
	w.checkAt(!is, 30, from)
	w.checkAt(o.Kind != impl.ObType, 32, from)
	if mod == "" {
		return o.Type
	}
	n := w.takenOver(w.modOf(mod), o.Type, from)
	w.noted(mod, name, from)
	return n
}

// wholeTypes tells the table with each open type as one that is like no type with a name.
func (w *walk) wholeTypes() []impl.Type {
	l := copyOf(w.s.Types)
	for n := range w.open {
		l[n] = arrayOf(1, 0)
	}
	return l
}

// thereFor tells the number that a type of a module has here, or -1, and whether one that is called so
// is here that is not alike.
func (w *walk) thereFor(m impl.Scope, k int) (int, bool) {
	if k < 3 {
		return k, false
	}
	one := m.Types[k]
	for n, other := range w.s.Types {
		if one.Name == "" || one.Name != other.Name || one.Owner != other.Owner {
			continue
		}
		reached, _ := impl.ReachedOf(w.wholeTypes(), []int{n})
		for _, part := range reached {
			if w.open[part] {
				return -1, true
			}
		}
		if is, ok := impl.SameTypes(w.wholeTypes(), n, m.Types, k); !is || !ok {
			return -1, true
		}
		return n, false
	}
	return -1, false
}

// takenOver goes through the types by a stack, and lays them down when all of them have their numbers.
func (w *walk) takenOver(m impl.Scope, k, from int) int {
	numbers := map[int]int{-1: -1}
	var order []int
	for stack := []int{k}; len(stack) > 0; {
		n := stack[len(stack)-1]
		stack = stack[:len(stack)-1]
		if _, is := numbers[n]; is {
			continue
		}
		here, otherwise := w.thereFor(m, n)
		if here >= 0 {
			numbers[n] = here
			continue
		}
		w.checkAt(otherwise || m.Types[n].Owner == w.s.Name, 36, from)
		w.checkAt(len(w.s.Types)+len(order) == 24, 34, from)
		numbers[n] = len(w.s.Types) + len(order)
		order = append(order, n)
		for i := len(m.Types[n].Fields) - 1; i >= 0; i-- {
			stack = append(stack, m.Types[n].Fields[i].Type)
		}
		stack = append(stack, m.Types[n].Base)
	}
	for _, n := range order {
		one := copyOf(m.Types[n : n+1])[0]
		one.Base = numbers[one.Base]
		for i, f := range one.Fields {
			one.Fields[i].Type = numbers[f.Type]
		}
		w.s.Types = append(w.s.Types, one)
	}
	return numbers[k]
}

// checkCompile asks for what the walk tells of a text, and tells its code.
func checkCompile(t *testing.T, text string, mods []impl.Scope) (impl.Scope, int) {
	t.Helper()
	want, why, place, good := compileByWalk(text, mods)
	got, code, at, ok := impl.Compile(text, mods)
	if code != why || at != place || ok != good || !sameByHand(got, want) {
		t.Fatalf("Compile(%q, %v) = %v, %d, %d, %v, want %v, %d, %d, %v", text, mods, got, code, at, ok, want, why, place, good)
	}
	if ok && !scopeByForm(got) {
		t.Fatalf("Compile(%q) = %v is not good", text, got)
	}
	return got, code
}

// scribe writes modules, most of which name what is there.
type scribe struct {
	*row
	words   []string
	imports []impl.Scope
	own     []impl.Object
	records []string
	late    []string
}

func (g *scribe) put(words string) {
	g.words = append(g.words, strings.Fields(words)...)
}

func (g *scribe) one(l ...string) string {
	return l[g.below(len(l))]
}

var frontNames = []string{"R", "S", "T", "P", "Q", "a", "b", "c", "k", "n", "v", "w", "x", "f"}

// newName tells mostly a name that is not declared.
func (g *scribe) newName() string {
	for range 8 {
		name := g.one(frontNames...)
		if !slices.ContainsFunc(g.own, func(o impl.Object) bool { return o.Name == name }) || g.below(60) == 0 {
			return name
		}
	}
	return g.one("A", "B", "INT", "k9", "y9", "z9", "w9", "v9")
}

// known tells a name of what is declared, or shown by an import.
func (g *scribe) known(kind int) (string, bool) {
	if g.below(80) == 0 {
		return g.one("A", "B", "INT", "A . R", "B . k", "C . P", "k", "zz"), true
	}
	var l []string
	for _, o := range g.own {
		if o.Kind == kind || kind == 0 {
			l = append(l, o.Name)
		}
	}
	for _, m := range g.imports {
		for _, o := range m.Objects {
			if o.Kind == kind || kind == 0 {
				l = append(l, m.Name+" . "+o.Name)
			}
		}
	}
	if len(l) == 0 {
		return "", false
	}
	return g.one(l...), true
}

func (g *scribe) expr(deep int) {
	if name, is := g.known(impl.ObConst); is && g.below(3) == 0 {
		g.put(name)
		return
	}
	switch {
	case deep > 0 && g.below(4) == 0:
		g.put("(")
		g.expr(deep - 1)
		g.put(g.one("+", "+", "*", "-", "+", g.one("DIV", "MOD")))
		g.expr(deep - 1)
		g.put(")")
	case deep > 0 && g.below(4) == 0:
		g.expr(deep - 1)
		g.put(g.one("+", "*", "+", "+", "DIV"))
		g.expr(deep - 1)
	case g.below(30) == 0:
		g.put("-")
		g.expr(deep)
	default:
		g.put(g.one("1", "2", "3", "7", "12", "1", "2", "3", "0FH", "500", "4", g.one("5", "0", "6", "999999999")))
	}
}

func (g *scribe) typ(deep int) {
	switch choice := g.below(10); {
	case choice < 4 || deep == 0:
		name, is := g.known(impl.ObType)
		if !is || g.below(3) == 0 {
			name = g.one("INT", "BOOL", "CHAR")
		}
		g.put(name)
	case choice < 6:
		g.put("ARRAY")
		g.expr(1)
		g.put("OF")
		g.typ(deep - 1)
	case choice < 8:
		g.record(deep - 1)
	default:
		g.put("POINTER TO")
		if g.below(3) == 0 && deep > 1 {
			g.typ(deep - 1)
		} else if len(g.records) > 0 && g.below(2) == 0 {
			g.put(g.one(g.records...))
		} else {
			name := g.newName()
			g.late = append(g.late, name)
			g.put(name)
		}
	}
}

func (g *scribe) record(deep int) {
	g.put("RECORD")
	if len(g.records) > 0 && g.below(3) == 0 {
		g.put("( " + g.one(g.records...) + " )")
	}
	many := g.below(4)
	if g.below(20) == 0 {
		many = 5 + g.below(4)
	}
	for i := range many {
		if i > 0 {
			g.put(";")
		}
		name := "abcdefgh"[i : i+1]
		if g.below(60) == 0 {
			name = "a"
		}
		g.put(name + g.one(" *", " *", " *", " -", "") + " :")
		g.typ(deep)
	}
	g.put("END")
}

func (g *scribe) params() {
	g.put("(")
	for i := range g.below(4 + g.below(2)*g.below(3)) {
		if i > 0 {
			g.put(";")
		}
		if g.below(3) == 0 {
			g.put("VAR")
		}
		name := "abcdefgh"[i : i+1]
		if g.below(60) == 0 {
			name = "a"
		}
		g.put(name + " :")
		g.typ(1)
	}
	g.put(")")
	if g.below(2) == 0 {
		g.put(":")
		g.typ(1)
	}
}

// declare writes one declaration; one of a name that a pointer has needed is a record.
func (g *scribe) declare() {
	kind := 1 + g.below(4)
	name := g.newName()
	late := len(g.late) > 0 && g.below(2) == 0
	if late {
		kind, name = impl.ObType, g.late[0]
		g.late = g.late[1:]
	}
	mark := g.one("*", "*", "*", "")
	if g.below(90) == 0 || kind == impl.ObVar && g.below(3) == 0 {
		mark = "-"
	}
	g.put([]string{"", "CONST", "TYPE", "VAR", "PROC"}[kind] + " " + name + " " + mark)
	switch kind {
	case impl.ObConst:
		g.put("=")
		g.expr(2)
	case impl.ObType:
		g.put("=")
		if late || g.below(2) == 0 {
			g.record(2)
			g.records = append(g.records, name)
		} else {
			g.typ(3)
		}
	case impl.ObVar:
		g.put(":")
		g.typ(3)
	default:
		g.params()
	}
	g.put(";")
	g.own = append(g.own, impl.Object{Name: name, Kind: kind})
}

// module writes a module of some name that imports from some of those that are there.
func (g *scribe) module(name string, mods []impl.Scope) string {
	g.words, g.imports, g.own, g.records, g.late = nil, nil, nil, nil, nil
	g.put("MODULE " + name + " ;")
	first := "IMPORT"
	for _, m := range mods {
		if g.below(2) == 0 && (m.Name != name || g.below(40) == 0) && (len(g.imports) < 4 || g.below(20) == 0) {
			g.put(first + " " + m.Name)
			first = ","
			g.imports = append(g.imports, m)
			for _, o := range m.Objects {
				if o.Kind == impl.ObType && m.Types[o.Type].Kind == impl.KdRecord {
					g.records = append(g.records, m.Name+" . "+o.Name)
				}
			}
		}
	}
	if len(g.imports) > 0 {
		if g.below(60) == 0 {
			g.put(", " + g.one("B", "zz"))
		}
		g.put(";")
	}
	for range g.below(9) {
		if use, is := g.known(0); is && g.below(5) == 0 {
			g.put("USE " + use + " ;")
		}
		g.declare()
	}
	for len(g.late) > 0 && g.below(25) > 0 {
		late := g.late[0]
		g.late = g.late[1:]
		if !slices.ContainsFunc(g.own, func(o impl.Object) bool { return o.Name == late }) {
			g.put("TYPE " + late + " * =")
			g.record(1)
			g.put(";")
			g.own = append(g.own, impl.Object{Name: late, Kind: impl.ObType})
		}
	}
	g.put("END")
	if g.below(40) == 0 {
		name = "zz"
	}
	g.put(name + " .")
	return strings.Join(g.words, " ")
}

// goneOn tells a module with one more declaration behind, of a type of a module that may know it.
func (g *scribe) goneOn(text string, mods []impl.Scope) string {
	l := strings.Fields(text)
	m := mods[g.below(len(mods))]
	opening := l[:3+slices.Index(l[3:], ";")]
	switch {
	case l[3] != "IMPORT":
		l = slices.Insert(l, 3, "IMPORT", m.Name, ";")
	case !slices.Contains(opening, m.Name):
		l = slices.Insert(l, len(opening), ",", m.Name)
	}
	g.words, g.own, g.imports = nil, nil, []impl.Scope{m}
	of, is := g.known(impl.ObType)
	if !is {
		return text
	}
	g.put("VAR " + g.newName() + " * : " + of + " ;")
	return strings.Join(slices.Insert(l, len(l)-3, g.words...), " ")
}

// spoilt tells a text with a word left out, told twice, put elsewhere or made another one.
func (g *scribe) spoilt(text string) string {
	l := strings.Fields(text)
	n, m := g.below(len(l)), g.below(len(l))
	other := g.one("MODULE", "IMPORT", "CONST", "TYPE", "VAR", "PROC", "USE", "END", "ARRAY", "OF", "RECORD", "POINTER", "TO", "DIV", "MOD",
		";", ",", ".", ":", "=", "*", "-", "+", "(", ")", "1", "0", "2000", "INT", "CHAR", "A", "B", "C", "R", "S", "T", "P", "k", "a", "b", "v")
	switch g.below(5) {
	case 0:
		l = slices.Delete(l, n, n+1)
	case 1:
		l = slices.Insert(l, n, l[n])
	case 2:
		l[n], l[m] = l[m], l[n]
	case 3:
		l[n] = other
	default:
		l = slices.Insert(l, n, other)
	}
	return strings.Join(l, " ")
}

// TestManyModules writes modules of six names that import from each other again and again, so that many
// were compiled against others that are otherwise by now.
func TestManyModules(t *testing.T) {
	g := &scribe{row: &row{seed: 5}}
	var mods []impl.Scope
	codes := map[int]int{}
	round := 0
	texts := map[string]string{}
	for i := range 12000 {
		name := g.one("A", "B", "C", "D", "E", "F")
		text := g.module(name, mods)
		if old := texts[name]; old != "" && len(mods) > 0 && g.below(3) > 0 {
			text = g.goneOn(old, mods)
		}
		for g.below(4) == 0 {
			text = g.spoilt(text)
		}
		s, code := checkCompile(t, text, mods)
		codes[code]++
		if code != 0 {
			continue
		}
		if i%40 == 0 {
			wantAcceptedOrFaults(t, text, mods)
		}
		wantTakenAlike(t, s, mods)
		for _, one := range s.Types {
			if one.Owner != "" && one.Owner != s.Name && reachesOwn(s, one) {
				round++
				break
			}
		}
		texts[s.Name] = strings.Join(strings.Fields(text), " ")
		mods = slices.DeleteFunc(slices.Clone(mods), func(m impl.Scope) bool { return m.Name == s.Name })
		if export := exportOf(t, s); len(export.Types) < 14 {
			mods = append(mods, export)
		}
	}
	t.Log(codes, round)
	for _, code := range []int{0, 20, 21, 30, 31, 32, 33, 34, 35, 36} {
		if codes[code] < 50 {
			t.Errorf("code %d came %d times", code, codes[code])
		}
	}
	if round < 5 {
		t.Error("types of the module itself came round too seldom", round)
	}
}

func reachesOwn(s impl.Scope, one impl.Type) bool {
	n := slices.IndexFunc(s.Types, func(t impl.Type) bool { return t.Owner == one.Owner && t.Name == one.Name })
	reached, _ := impl.ReachedOf(s.Types, []int{n})
	return slices.ContainsFunc(reached, func(k int) bool { return s.Types[k].Owner == s.Name })
}

// wantAcceptedOrFaults cuts a text that is taken off behind each token, and goes on with each word.
func wantAcceptedOrFaults(t *testing.T, text string, mods []impl.Scope) {
	t.Helper()
	for _, between := range betweens[1:] {
		other, _ := withBetween(text, -1, between)
		if len(other) <= impl.MaxText {
			checkCompile(t, other, mods)
		}
	}
	l := strings.Fields(text)
	for n := range l {
		cut := strings.Join(l[:n], " ")
		checkCompile(t, cut, mods)
		for _, more := range []string{"END", "A", "7", ";", ".", "(", "*", "RECORD"} {
			checkCompile(t, cut+" "+more, mods)
		}
	}
}

// TestTakeManyTypes takes each type of what one module tells over into another one.
func TestTakeManyTypes(t *testing.T) {
	r := &row{seed: 9}
	taken, not := 0, 0
	for range 2000 {
		m, s := r.someScope(), r.someScope()
		for n := range m.Types[3:] {
			if one := &m.Types[3+n]; one.Name == "" && r.below(3) > 0 {
				one.Owner, one.Name = r.someOwner(), "N"+strconv.Itoa(n)
			}
		}
		m = exportByStack(m)
		if !scopeByForm(m) || !scopeByForm(s) {
			continue
		}
		switch r.below(3) {
		case 0:
			s = exportByStack(s)
			s.Types = copyOf(m.Types)
			s.Objects = nil
			if n := 3 + r.below(len(s.Types)); n < len(s.Types) && r.below(2) == 0 {
				s.Types[n].Long, s.Types[n].Fields = min(s.Types[n].Long, 1), nil
			}
		case 1:
			s.Types, s.Objects = append(s.Types, arrayOf(5, 0), arrayOf(5, 0))[:len(s.Types)+r.below(3)], nil
		}
		for n := range m.Types {
			w := &walk{mods: []impl.Scope{m}, s: copyOfScope(s), open: map[int]bool{}}
			number, fault := w.takenAlone(m, n)
			if fault.code != 0 || !scopeByForm(s) {
				wantNotTaken(t, s, m, n)
				not++
			} else {
				wantTaken(t, s, m, n, w.s, number)
				taken++
			}
		}
	}
	if taken < 1000 || not < 200 {
		t.Error("too few types of each sort", taken, not)
	}
}

func (r *row) someOwner() string {
	return []string{"M", "N", "K", "K"}[r.below(4)]
}

func (w *walk) takenAlone(m impl.Scope, n int) (number int, fault met) {
	defer func() {
		if thrown := recover(); thrown != nil {
			fault = thrown.(met)
		}
	}()
	return w.takenOver(m, n, 0), met{}
}

// TestGrammarOfTheModel holds the model to the strays that are written down.
func TestGrammarOfTheModel(t *testing.T) {
	for _, decls := range strays {
		text := "MODULE A; IMPORT B; " + decls + " END A."
		at := strings.Index(text, "^")
		text = strings.Replace(text, "^", "", 1)
		_, code, place, _ := compileByWalk(text, shown(t))
		if code != 20 || place != at {
			t.Errorf("the model tells %d at %d of %q, want %d", code, place, text, at)
		}
	}
	for _, w := range faults {
		text := "MODULE A; IMPORT B, C; " + w.decls + " END A."
		at := strings.Index(text, "^")
		_, code, place, _ := compileByWalk(strings.Replace(text, "^", "", 1), shown(t))
		if code != w.code || place != at {
			t.Errorf("the model tells %d at %d of %q, want %d at %d", code, place, text, w.code, at)
		}
	}
	if n := strayOf(tokensOf(t, "MODULE A; END A.")); n != -1 {
		t.Error(strconv.Itoa(n))
	}
}
