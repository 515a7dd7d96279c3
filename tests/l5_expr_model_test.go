package tests

import (
	"math"
	"slices"
	"strconv"
	"strings"
	"testing"

	"loop.example/g00837/impl"
)

var signsOfKinds = []string{impl.StAdd: "+", impl.StSub: "-", impl.StMul: "*", impl.StDiv: "DIV", impl.StMod: "MOD"}

// yard reads an expression with one stack of what waits for its right side, and without a function
// within itself. A minus ahead of a factor waits as "~".
type yard struct {
	steps   []impl.Step
	waiting []string
}

// holdsBy tells how strongly an operator holds what is ahead of it.
func holdsBy(operator string) int {
	switch operator {
	case "+", "-":
		return 1
	case "*", "DIV", "MOD":
		return 2
	case "~":
		return 3
	}
	return 0
}

// release lets out what waits and holds at least so strongly, up to a bracket.
func (y *yard) release(by int) {
	for len(y.waiting) > 0 && holdsBy(y.waiting[len(y.waiting)-1]) >= by {
		last := y.waiting[len(y.waiting)-1]
		y.waiting = y.waiting[:len(y.waiting)-1]
		kind := impl.StNeg
		if last != "~" {
			kind = slices.Index(signsOfKinds, last)
		}
		y.steps = append(y.steps, impl.Step{Kind: kind})
	}
}

// operand takes what may begin a factor, and tells how many tokens these are, and whether the factor
// is at its end; no tokens, where the one at a place can not stand there.
func (y *yard) operand(l []impl.Token, i int) (int, bool) {
	switch {
	case l[i].Kind == impl.TkNumber:
		y.steps = append(y.steps, impl.Step{Kind: impl.StNum, Value: l[i].Value})
		return 1, true
	case l[i].Kind == impl.TkName:
		step := impl.Step{Kind: impl.StName, Name: l[i].Text}
		if i+2 < len(l) && l[i+1].Text == "." && l[i+2].Kind == impl.TkName {
			step.Mod, step.Name = step.Name, l[i+2].Text
			y.steps = append(y.steps, step)
			return 3, true
		}
		y.steps = append(y.steps, step)
		return 1, true
	case l[i].Text == "(":
		y.waiting = append(y.waiting, "(")
		return 1, false
	case l[i].Text == "-":
		y.waiting = append(y.waiting, "~")
		return 1, false
	}
	return 0, false
}

// behindOperand takes what may stand behind a factor, and tells likewise.
func (y *yard) behindOperand(l []impl.Token, i int) (int, bool) {
	if by := holdsBy(l[i].Text); by > 0 {
		y.release(by)
		y.waiting = append(y.waiting, l[i].Text)
		return 1, false
	}
	if l[i].Text == ")" && slices.Contains(y.waiting, "(") {
		y.release(1)
		y.waiting = y.waiting[:len(y.waiting)-1]
		return 1, true
	}
	return 0, true
}

// readByYard tells the steps of tokens and 0, or none and the number of the first one that can not
// stand where it does.
func readByYard(l []impl.Token) ([]impl.Step, int) {
	y := &yard{}
	ended := false
	for i := 0; i < len(l); {
		many := 0
		switch {
		case !ended:
			many, ended = y.operand(l, i)
		default:
			many, ended = y.behindOperand(l, i)
		}
		// A name with . behind and no name then: what can not stand is what stands behind that.
		if many == 0 && l[i].Text == "." && ended && l[i-1].Kind == impl.TkName && (i < 2 || l[i-2].Text != ".") {
			return nil, i + 2
		}
		if many == 0 {
			return nil, i + 1
		}
		i += many
	}
	y.release(1)
	if !ended || len(y.waiting) > 0 {
		return nil, len(l) + 1
	}
	return y.steps, 0
}

// goodByForm asks from behind: each step fills one place, and needs as many as it takes.
func goodByForm(e []impl.Step) bool {
	places := 1
	for i := len(e) - 1; i >= 0; i-- {
		if places == 0 || !stepByForm(e[i]) {
			return false
		}
		switch e[i].Kind {
		case impl.StNum, impl.StName:
			places--
		case impl.StNeg:
		default:
			places++
		}
	}
	return places == 0 && len(e) <= 40
}

func stepByForm(s impl.Step) bool {
	if s.Kind == 2 {
		return s.Value == 0 && impl.GoodName(s.Name) && (impl.GoodName(s.Mod) || s.Mod == "")
	}
	if s.Mod != "" || s.Name != "" {
		return false
	}
	if s.Kind == 1 {
		return isIn(s.Value, 0, 1000000000)
	}
	return isIn(s.Kind, 3, 8) && s.Value == 0
}

// tree is an expression by its last step.
type tree struct {
	last        impl.Step
	left, right *tree
}

// treeOf takes the last expression off good steps, and tells what is ahead of it.
func treeOf(e []impl.Step) (*tree, []impl.Step) {
	last := e[len(e)-1]
	ahead := e[:len(e)-1]
	one := &tree{last: last}
	switch last.Kind {
	case impl.StNum, impl.StName:
	case impl.StNeg:
		one.right, ahead = treeOf(ahead)
	default:
		one.right, ahead = treeOf(ahead)
		one.left, ahead = treeOf(ahead)
	}
	return one, ahead
}

// valueByTree tells the value of a tree and 0, or a code; what is on the left is met first.
func valueByTree(e *tree, known []impl.Known) (int, int) {
	switch e.last.Kind {
	case impl.StNum:
		return e.last.Value, 0
	case impl.StName:
		at := slices.IndexFunc(known, func(k impl.Known) bool { return k.Mod == e.last.Mod && k.Name == e.last.Name })
		if at < 0 {
			return 0, 1
		}
		return known[at].Value, 0
	case impl.StNeg:
		n, code := valueByTree(e.right, known)
		return -n, code
	}
	a, code := valueByTree(e.left, known)
	if code != 0 {
		return 0, code
	}
	b, code := valueByTree(e.right, known)
	if code != 0 {
		return 0, code
	}
	if b == 0 && e.last.Kind >= impl.StDiv {
		return 0, 2
	}
	// All values are whole numbers below 2 to the 53rd here, or far beyond the limit.
	n := map[int]float64{
		impl.StAdd: float64(a) + float64(b),
		impl.StSub: float64(a) - float64(b),
		impl.StMul: float64(a) * float64(b),
		impl.StDiv: math.Floor(float64(a) / float64(b)),
		impl.StMod: float64(a) - float64(b)*math.Floor(float64(a)/float64(b)),
	}[e.last.Kind]
	if math.Abs(n) > 1000000000 {
		return 0, 3
	}
	return int(n), 0
}

// fullText tells a text of a tree with brackets around each step, as words.
func fullText(e *tree) []string {
	switch {
	case e.last.Kind == impl.StNum:
		return []string{"(", strconv.Itoa(e.last.Value), ")"}
	case e.last.Mod != "":
		return []string{"(", e.last.Mod, ".", e.last.Name, ")"}
	case e.last.Kind == impl.StName:
		return []string{"(", e.last.Name, ")"}
	case e.last.Kind == impl.StNeg:
		return slices.Concat([]string{"(", "-"}, fullText(e.right), []string{")"})
	}
	return slices.Concat([]string{"("}, fullText(e.left), []string{signsOfKinds[e.last.Kind]}, fullText(e.right), []string{")"})
}

// withoutPair leaves out the bracket at a place, and the one that closes it.
func withoutPair(words []string, at int) []string {
	depth := 0
	for i := at; ; i++ {
		switch words[i] {
		case "(":
			depth++
		case ")":
			depth--
		}
		if depth == 0 {
			return slices.Concat(words[:at], words[at+1:i], words[i+1:])
		}
	}
}

// isTextOf asks the yard whether words are those of some steps.
func isTextOf(words []string, e []impl.Step) bool {
	l, _, _, ok := impl.ReadTokens(strings.Join(words, " "))
	got, number := readByYard(l)
	return ok && number == 0 && slices.Equal(got, e)
}

// leastText leaves out one pair of brackets after the other, where the steps stay the same.
func leastText(e []impl.Step) string {
	top, _ := treeOf(e)
	words := fullText(top)
	for at := 0; at < len(words); {
		if words[at] == "(" {
			if less := withoutPair(words, at); isTextOf(less, e) {
				words = less
				continue
			}
		}
		at++
	}
	return strings.Join(words, " ")
}

// hasText tells whether all numbers and names of good steps are such as may stand in a text.
func hasText(e []impl.Step) bool {
	for _, s := range e {
		if s.Value > 999999999 || slices.Contains(keptWords, s.Mod) || slices.Contains(keptWords, s.Name) {
			return false
		}
	}
	return true
}

// checkSteps asks for all that is told of some steps, and tells whether they are good.
func checkSteps(t *testing.T, e []impl.Step, known []impl.Known) bool {
	t.Helper()
	good := goodByForm(e)
	if impl.GoodExpr(e) != good {
		t.Fatalf("GoodExpr(%v) is not %v", e, good)
	}
	if !good {
		wantNothingOfSteps(t, e)
		return false
	}
	if !hasText(e) {
		wantExprText(t, e, "", false)
	} else {
		wantExprText(t, e, leastText(e), true)
		wantReadAgain(t, e)
	}
	top, _ := treeOf(e)
	value, code := valueByTree(top, known)
	wantValue(t, e, known, value, code)
	switch {
	case code != 0:
		wantFolded(t, e, known, e)
	case value < 0:
		wantFolded(t, e, known, []impl.Step{num(-value), does(impl.StNeg)})
	default:
		wantFolded(t, e, known, []impl.Step{num(value)})
	}
	var names []impl.Use
	for _, s := range e {
		use := impl.Use{Mod: s.Mod, Name: s.Name}
		if s.Name != "" && slices.Index(names, use) < 0 {
			names = append(names, use)
		}
	}
	wantNamesIn(t, e, names)
	return true
}

// checkTokens asks for what is told of good tokens, and tells whether they are an expression.
func checkTokens(t *testing.T, l []impl.Token) bool {
	t.Helper()
	steps, number := readByYard(l)
	if number != 0 || len(steps) > 40 {
		wantNotRead(t, l, number)
		return false
	}
	wantRead(t, l, steps)
	return true
}

func TestAllSmallRowsOfTokens(t *testing.T) {
	for _, sort := range []struct {
		long  int
		words string
		least int
	}{
		{8, "1 + ( )", 22},
		{7, "n . - *", 100},
		{6, "n . - ( )", 50},
		{5, "n 1 . ( ) - + * DIV MOD", 400},
		{3, "n 1 0FH INT . ( ) - + * DIV MOD END TO ; , : =", 100},
	} {
		tokens, _, _, _ := impl.ReadTokens(sort.words)
		level := [][]impl.Token{nil}
		read := 0
		for range sort.long {
			var next [][]impl.Token
			for _, l := range level {
				for _, token := range tokens {
					next = append(next, append(slices.Clip(l), token))
				}
			}
			for _, l := range next {
				if checkTokens(t, l) {
					read++
				}
			}
			level = next
		}
		if read < sort.least {
			t.Errorf("of %q only %d are read", sort.words, read)
		}
	}
}

func TestAllSmallRowsOfSteps(t *testing.T) {
	known := []impl.Known{{Name: "n", Value: -3}, {Mod: "B", Name: "n", Value: 2}, {Name: "n", Value: 99}}
	for _, sort := range []struct {
		long  int
		words string
	}{
		{9, "7 + -"},
		{7, "7 ~ - *"},
		{7, "n / %"},
		{5, "2 n B.n x + - * / % ~"},
		{3, "0 1000000000 999999999 n B.n B.x END B.END n.n + - * / % ~"},
	} {
		level := [][]impl.Step{nil}
		good := 0
		for range sort.long {
			var next [][]impl.Step
			for _, e := range level {
				for _, one := range steps(sort.words) {
					next = append(next, append(slices.Clip(e), one))
				}
			}
			for _, e := range next {
				if checkSteps(t, e, known) {
					good++
				}
			}
			level = next
		}
		if good < 50 {
			t.Errorf("of %q only %d are good", sort.words, good)
		}
	}
}

// someSteps tells good steps, at most so many; whether they have a text is not sure.
func (r *row) someSteps(most int) []impl.Step {
	var e []impl.Step
	have := 0
	for len(e)+have < most {
		switch choice := r.below(20); {
		case choice < 9 || have == 0:
			e = append(e, r.someOperand())
			have++
		case choice < 12:
			e = append(e, does(impl.StNeg))
		case have > 1:
			e = append(e, does(impl.StAdd+r.below(5)))
			have--
		}
	}
	for ; have > 1; have-- {
		e = append(e, does(impl.StAdd+r.below(5)))
	}
	return e
}

func (r *row) someOperand() impl.Step {
	switch r.below(8) {
	case 0, 1, 2:
		return num(r.below(12))
	case 3:
		return num([]int{0, 1, 31622, 31623, 46341, 65536, 499999999, 500000000, 999999999, 1000000000}[r.below(10)])
	case 4:
		return of([]string{"B", "C", "n"}[r.below(3)], []string{"k", "n", "m"}[r.below(3)])
	}
	return named([]string{"n", "k", "m", "p", "least", "most", "TO"}[r.below(7)])
}

// someKnown tells at most 40 known ones, among which mostly are all that someOperand may name.
func (r *row) someKnown() []impl.Known {
	var l []impl.Known
	for range r.below(25) {
		one := r.someOperand()
		l = append(l, impl.Known{Mod: one.Mod, Name: one.Name, Value: r.someValue()})
	}
	if r.below(4) == 0 {
		return l
	}
	for _, one := range steps("n k m p least most TO B.k B.n B.m C.k C.n C.m n.k n.n n.m") {
		l = append(l, impl.Known{Mod: one.Mod, Name: one.Name, Value: r.someValue()})
	}
	return l
}

func (r *row) someValue() int {
	if r.below(8) == 0 {
		return []int{-impl.MaxWhole, impl.MaxWhole, -impl.MaxWhole + 1, impl.MaxWhole - 1, 31623, -31623}[r.below(6)]
	}
	return r.below(40) - 20
}

func TestManyExpressions(t *testing.T) {
	r := &row{seed: 5}
	codes := make([]int, 4)
	texts := 0
	for range 3000 {
		e, known := r.someSteps(1+r.below(40)), r.someKnown()
		if !checkSteps(t, e, known) {
			t.Fatalf("%v are not good", e)
		}
		_, code, _ := impl.EvalExpr(e, known)
		codes[code]++
		if hasText(e) {
			texts++
		}
		checkSteps(t, r.changedSteps(e), known)
	}
	if slices.Min(codes) < 300 || texts < 1000 {
		t.Error("too few of each sort", codes, texts)
	}
}

// changedSteps tells steps with one thing made otherwise, which may leave them good or not.
func (r *row) changedSteps(e []impl.Step) []impl.Step {
	e = slices.Clone(e)
	at := r.below(len(e))
	number := []int{-1, 0, 1, 2, 3, 8, 9, impl.MaxWhole, impl.MaxWhole + 1}[r.below(9)]
	text := []string{"", "n", "B", "MOD", "1", "a b"}[r.below(6)]
	switch r.below(7) {
	case 0:
		e[at].Kind = number
	case 1:
		e[at].Value = number
	case 2:
		e[at].Mod = text
	case 3:
		e[at].Name = text
	case 4:
		e[0], e[at] = e[at], e[0]
	case 5:
		return slices.Delete(e, at, at+1)
	case 6:
		return slices.Insert(e, at, r.someOperand(), does(impl.StAdd+r.below(6)))
	}
	return e
}

// TestManyTexts reads texts with more brackets than are needed, and such with one token made otherwise.
func TestManyTexts(t *testing.T) {
	r := &row{seed: 8}
	all, _, _, _ := impl.ReadTokens("n 1 . ( ) - + * DIV MOD END = ;")
	read, not := 0, 0
	for range 6000 {
		e := r.someSteps(1 + r.below(24))
		if !hasText(e) {
			continue
		}
		top, _ := treeOf(e)
		words := fullText(top)
		for range r.below(20) {
			if at := r.below(len(words)); words[at] == "(" {
				words = withoutPair(words, at)
			}
		}
		l, _, _, ok := impl.ReadTokens(strings.Join(words, " "))
		if !ok {
			t.Fatalf("no tokens of %q", words)
		}
		if checkTokens(t, l) {
			read++
		}
		at := r.below(len(l))
		for _, other := range [][]impl.Token{
			slices.Concat(l[:at], all[r.below(13):][:1], l[at+1:]),
			slices.Concat(l[:at], l[at+1:]),
			slices.Insert(slices.Clone(l), at, all[r.below(13)]),
			l[:at],
		} {
			if !checkTokens(t, other) {
				not++
			}
		}
	}
	if read < 2000 || not < 6000 {
		t.Error("too few of each sort", read, not)
	}
}

// TestExprAnswersAnything asks for tokens, steps and known ones with any numbers in them: a panic
// fails, and what is not as said has the zero answer.
func TestExprAnswersAnything(t *testing.T) {
	r := &row{seed: 13}
	some := []int{math.MinInt, -1000, -1, 0, 1, 2, 3, 4, 5, 6, 7, 8, 9, 257, impl.MaxWhole, impl.MaxWhole + 1, 1 << 32, math.MaxInt}
	texts := []string{"", "x", "B", "MOD", "-", "12", "a b", "\xff", "abcdefghijk"}
	number := func() int { return some[r.below(len(some))] }
	text := func() string { return texts[r.below(len(texts))] }
	for range 8000 {
		var e []impl.Step
		var known []impl.Known
		var l []impl.Token
		for range r.below(8) {
			one := impl.Step{Kind: r.below(9)}
			if one.Kind < 3 {
				one = impl.Step{Kind: one.Kind, Value: number(), Mod: text(), Name: text()}
			}
			e = append(e, one)
			known = append(known, impl.Known{Mod: text(), Name: text(), Value: number() % 2000000000})
			l = append(l, impl.Token{Kind: r.below(6), Text: text(), Value: number() % 13, At: number()})
		}
		checkSteps(t, e, nil)
		inside := !slices.ContainsFunc(known, func(k impl.Known) bool { return !isIn(k.Value, -1000000000, 1000000000) })
		if good := r.someSteps(9); inside {
			checkSteps(t, good, known)
		} else {
			wantNoValue(t, good, known)
		}
		if impl.GoodTokens(l) {
			checkTokens(t, l)
		} else {
			wantNotRead(t, l, 0)
		}
	}
}
