package tests

import (
	"math"
	"reflect"
	"slices"
	"strconv"
	"strings"
	"testing"

	"loop.example/g00837/impl"
)

func num(value int) impl.Step {
	return impl.Step{Kind: impl.StNum, Value: value}
}

func named(name string) impl.Step {
	return impl.Step{Kind: impl.StName, Name: name}
}

func of(mod, name string) impl.Step {
	return impl.Step{Kind: impl.StName, Mod: mod, Name: name}
}

func does(kind int) impl.Step {
	return impl.Step{Kind: kind}
}

// steps tells steps of words: numbers, names, names with a dot, and + - * / % and ~ for the others.
func steps(words string) []impl.Step {
	kinds := map[string]int{"+": impl.StAdd, "-": impl.StSub, "*": impl.StMul, "/": impl.StDiv, "%": impl.StMod, "~": impl.StNeg}
	var e []impl.Step
	for _, word := range strings.Fields(words) {
		value, err := strconv.Atoi(word)
		mod, name, two := strings.Cut(word, ".")
		switch {
		case kinds[word] != 0:
			e = append(e, does(kinds[word]))
		case err == nil:
			e = append(e, num(value))
		case two:
			e = append(e, of(mod, name))
		default:
			e = append(e, named(word))
		}
	}
	return e
}

func tokensOf(t *testing.T, s string) []impl.Token {
	t.Helper()
	l, code, at, ok := impl.ReadTokens(s)
	if !ok {
		t.Fatalf("ReadTokens(%q) tells %d at %d", s, code, at)
	}
	return l
}

// noted are constants that most tests of values know.
var noted = []impl.Known{
	{Name: "n", Value: 4}, {Mod: "B", Name: "k", Value: 5}, {Name: "zero"}, {Name: "below", Value: -7},
	{Name: "least", Value: -impl.MaxWhole}, {Name: "most", Value: impl.MaxWhole},
}

func wantRead(t *testing.T, l []impl.Token, e []impl.Step) {
	t.Helper()
	if got, number, ok := impl.ReadExpr(l); !slices.Equal(got, e) || number != 0 || !ok {
		t.Errorf("ReadExpr(%v) = %v, %d, %v, want %v", l, got, number, ok, e)
	}
}

func wantNotRead(t *testing.T, l []impl.Token, number int) {
	t.Helper()
	if got, at, ok := impl.ReadExpr(l); len(got) != 0 || at != number || ok {
		t.Errorf("ReadExpr(%v) = %v, %d, %v, want %d", l, got, at, ok, number)
	}
}

func wantValue(t *testing.T, e []impl.Step, known []impl.Known, value, code int) {
	t.Helper()
	if got, why, ok := impl.EvalExpr(e, known); got != value || why != code || !ok {
		t.Errorf("EvalExpr(%v, %v) = %d, %d, %v, want %d, %d", e, known, got, why, ok, value, code)
	}
}

// wantNoValue asks for the zero answers of known ones, or steps, that are not as said.
func wantNoValue(t *testing.T, e []impl.Step, known []impl.Known) {
	t.Helper()
	if got, why, ok := impl.EvalExpr(e, known); got != 0 || why != 0 || ok {
		t.Errorf("EvalExpr(%v, %v) = %d, %d, %v", e, known, got, why, ok)
	}
	if got, ok := impl.FoldExpr(e, known); len(got) != 0 || ok {
		t.Errorf("FoldExpr(%v, %v) = %v, %v", e, known, got, ok)
	}
}

func wantExprText(t *testing.T, e []impl.Step, text string, good bool) {
	t.Helper()
	if got, ok := impl.ExprText(e); got != text || ok != good {
		t.Errorf("ExprText(%v) = %q, %v, want %q, %v", e, got, ok, text, good)
	}
}

func wantNamesIn(t *testing.T, e []impl.Step, names []impl.Use) {
	t.Helper()
	if got, ok := impl.NamesIn(e); !slices.Equal(got, names) || !ok {
		t.Errorf("NamesIn(%v) = %v, %v, want %v", e, got, ok, names)
	}
}

func wantFolded(t *testing.T, e []impl.Step, known []impl.Known, want []impl.Step) {
	t.Helper()
	if got, ok := impl.FoldExpr(e, known); !slices.Equal(got, want) || !ok {
		t.Errorf("FoldExpr(%v, %v) = %v, %v, want %v", e, known, got, ok, want)
	}
	wantSameValue(t, e, known, want)
}

// wantSameValue asks what promise 5 says of what is folded.
func wantSameValue(t *testing.T, e []impl.Step, known []impl.Known, folded []impl.Step) {
	t.Helper()
	value, code, ok := impl.EvalExpr(e, known)
	if got, why, good := impl.EvalExpr(folded, known); got != value || why != code || good != ok {
		t.Errorf("%v are folded to %v, of which %d, %d, %v come, want %d, %d, %v", e, folded, got, why, good, value, code, ok)
	}
}

// wantNothingOfSteps asks for the zero answers of steps that are not good.
func wantNothingOfSteps(t *testing.T, e []impl.Step) {
	t.Helper()
	if impl.GoodExpr(e) {
		t.Errorf("GoodExpr(%v) tells true", e)
	}
	wantExprText(t, e, "", false)
	if names, ok := impl.NamesIn(e); len(names) != 0 || ok {
		t.Errorf("NamesIn(%v) = %v, %v", e, names, ok)
	}
	wantNoValue(t, e, nil)
	wantNoValue(t, e, noted)
}

// wantReadAgain asks what promise 5 says of a text: it is read again, and all its tokens are needed.
func wantReadAgain(t *testing.T, e []impl.Step) {
	t.Helper()
	text, ok := impl.ExprText(e)
	if !ok || !impl.GoodExpr(e) {
		t.Fatalf("ExprText(%v) = %q, %v", e, text, ok)
	}
	l := tokensOf(t, text)
	wantRead(t, l, e)
	if again, _ := impl.TokensText(l); again != text {
		t.Errorf("ExprText(%v) = %q is told as %q", e, text, again)
	}
	words := strings.Fields(text)
	for at, word := range words {
		if word == "(" && isTextOf(withoutPair(words, at), e) {
			t.Errorf("ExprText(%v) = %q has a bracket at %d that may be left out", e, text, at)
		}
	}
}

func TestExprConstantsAreAsTold(t *testing.T) {
	kinds := []int{impl.StNum, impl.StName, impl.StAdd, impl.StSub, impl.StMul, impl.StDiv, impl.StMod, impl.StNeg}
	if impl.MaxSteps != 40 || !slices.Equal(kinds, []int{1, 2, 3, 4, 5, 6, 7, 8}) {
		t.Error(impl.MaxSteps, kinds)
	}
}

// textsRead are read, but not all of them are told so.
var textsRead = []struct {
	text, steps string
}{
	{"2", "2"}, {"0", "0"}, {"007", "7"}, {"0FFH", "255"}, {"999999999", "999999999"}, {"9FFFFFFH", "167772159"},
	{"n", "n"}, {"FFH", "FFH"}, {"INT", "INT"}, {"abcdefghij", "abcdefghij"}, {"B.k", "B.k"}, {"B . B", "B.B"}, {"abcdefghij.klmnopqrst", "abcdefghij.klmnopqrst"},
	{"2+3", "2 3 +"}, {"2-3", "2 3 -"}, {"2*3", "2 3 *"}, {"2 DIV 3", "2 3 /"}, {"2 MOD 3", "2 3 %"}, {"-2", "2 ~"}, {"-n", "n ~"}, {"-B.k", "B.k ~"},
	// From the left.
	{"2-3-4", "2 3 - 4 -"}, {"2+3-4+5", "2 3 + 4 - 5 +"}, {"2-3+4-5", "2 3 - 4 + 5 -"}, {"2*3*4", "2 3 * 4 *"}, {"2 DIV 3 DIV 4", "2 3 / 4 /"},
	{"2 MOD 3 * 4 DIV 5", "2 3 % 4 * 5 /"}, {"2 * 3 MOD 4 MOD 5", "2 3 * 4 % 5 %"},
	// Terms within expressions.
	{"2+3*4", "2 3 4 * +"}, {"2*3+4", "2 3 * 4 +"}, {"2-3 DIV 4-5", "2 3 4 / - 5 -"}, {"2*3+4*5", "2 3 * 4 5 * +"}, {"2-3 MOD 4*5", "2 3 4 % 5 * -"},
	// A minus and a factor.
	{"--2", "2 ~ ~"}, {"- - -n", "n ~ ~ ~"}, {"-2*3", "2 ~ 3 *"}, {"-2+3", "2 ~ 3 +"}, {"-2 DIV n", "2 ~ n /"}, {"2*-3", "2 3 ~ *"}, {"2--3", "2 3 ~ -"}, {"2+-3", "2 3 ~ +"},
	{"2---3", "2 3 ~ ~ -"}, {"2 MOD - -3", "2 3 ~ ~ %"}, {"2-3*-4", "2 3 4 ~ * -"}, {"-2--3--4", "2 ~ 3 ~ - 4 ~ -"},
	// Brackets.
	{"(2)", "2"}, {"(((n)))", "n"}, {"(B.k)", "B.k"}, {"-(2)", "2 ~"}, {"(-2)", "2 ~"}, {"-(-2)", "2 ~ ~"}, {"(2)+(3)", "2 3 +"},
	{"2-(3-4)", "2 3 4 - -"}, {"(2-3)-4", "2 3 - 4 -"}, {"2-(3+4)", "2 3 4 + -"}, {"2+(3+4)", "2 3 4 + +"}, {"2+(3-4)", "2 3 4 - +"},
	{"(2+3)*4", "2 3 + 4 *"}, {"2*(3+4)", "2 3 4 + *"}, {"2*(3*4)", "2 3 4 * *"}, {"2 DIV (3 DIV 4)", "2 3 4 / /"}, {"2 MOD (3*4)", "2 3 4 * %"}, {"(2-3) DIV (4-5)", "2 3 - 4 5 - /"},
	{"-(2+3)", "2 3 + ~"}, {"-(2*3)", "2 3 * ~"}, {"-(2 MOD 3)*4", "2 3 % ~ 4 *"}, {"-(n-B.k)", "n B.k - ~"}, {"((2+3)*(4-5))", "2 3 + 4 5 - *"}, {"2-(((3-4)))", "2 3 4 - -"},
	{"2 * (n + B.k) - - 3", "2 n B.k + * 3 ~ -"},
}

func TestExpressionsAreRead(t *testing.T) {
	for _, w := range textsRead {
		l := tokensOf(t, w.text)
		wantRead(t, l, steps(w.steps))
		if _, number := readByYard(l); number != 0 {
			t.Errorf("the yard stops in %q at %d", w.text, number)
		}
		wantReadAgain(t, steps(w.steps))
		for i := range l {
			l[i].At = math.MinInt
		}
		wantRead(t, l, steps(w.steps))
		wantRead(t, tokensOf(t, "(* *)\n"+strings.Join(strings.Split(w.text, " "), "(* (* *) *) \n")+" "), steps(w.steps))
	}
}

func TestTokensThatCanNotStand(t *testing.T) {
	for _, w := range []struct {
		text   string
		number int
	}{
		// The first one.
		{"+", 1}, {"* 2", 1}, {"DIV 2", 1}, {"MOD", 1}, {")", 1}, {". n", 1}, {";", 1}, {",", 1}, {":", 1}, {"= 2", 1}, {"END", 1}, {"MODULE n", 1}, {"+ +", 1}, {"ARRAY", 1},
		// One in the midst, or too many behind.
		{"2 3", 2}, {"2 n", 2}, {"n n", 2}, {"n 2", 2}, {"2 (", 2}, {"n (2)", 2}, {"2 )", 2}, {"n )", 2}, {"2 . n", 2}, {"2 . 3", 2}, {"2 ;", 2}, {"n ;", 2}, {"n = 2", 2}, {"n END", 2}, {"n OF", 2},
		{"B.k.k", 4}, {"B.k 2", 4}, {"B.k n", 4}, {"B.k (", 4}, {"B.k )", 4}, {"B.k ;", 4},
		{"n . 2", 3}, {"n . .", 3}, {"n . (", 3}, {"n . -", 3}, {"n . END", 3}, {"n . DIV 2", 3}, {"n.*", 3}, {"2 + n . ) 3", 5},
		{"2 + )", 3}, {"2 + +", 3}, {"2 - + 3", 3}, {"2 * * 3", 3}, {"2 DIV DIV 3", 3}, {"2 MOD * 3", 3}, {"2 + ;", 3}, {"2 * END", 3}, {"2 - . n", 3}, {"- + 2", 2}, {"- )", 2}, {"- * 2", 2}, {"- - DIV", 3},
		{"()", 2}, {"( )2", 2}, {"(+2)", 2}, {"(*a*)(2 3)", 3}, {"(2 n)", 3}, {"(2 ;", 3}, {"(2) 3", 4}, {"(2) n", 4}, {"(2) (3)", 4}, {"(2))", 4}, {"((2)) )", 6}, {"(2).n", 4}, {"(n).n", 4},
		{"(2 + )", 4}, {"(2 * (3 - ) 4)", 7}, {"2 + (3 ; 4)", 5}, {"2 - (3 * n 4", 7},
		{"2 + 3 * n DIV B.k MOD 5 - - 6 END", 15}, {"2 ; ;", 2}, {"2 3 +", 2}, {"; 2 + +", 1},
	} {
		wantNotRead(t, tokensOf(t, w.text), w.number)
	}
}

func TestExpressionsThatEndTooEarly(t *testing.T) {
	wantNotRead(t, nil, 1)
	wantNotRead(t, []impl.Token{}, 1)
	wantNotRead(t, tokensOf(t, " (* *) \n"), 1)
	for _, text := range []string{
		"-", "--", "2 +", "2 -", "2 *", "2 DIV", "n MOD", "2 + -", "B.", "2 + B.", "(", "((", "(2", "(n", "(B.k", "(B.", "(2 +", "(2 + 3", "((2)", "(2)*(3", "-(", "-(2", "2 - (3 - (4 - 5)", "(2 + 3) *", "((2 + 3)",
	} {
		l := tokensOf(t, text)
		wantNotRead(t, l, len(l)+1)
	}
	// Each expression that is cut short ends too early, or is one.
	for _, w := range textsRead {
		l := tokensOf(t, w.text)
		for n := range l {
			checkTokens(t, l[:n])
			if _, number, ok := impl.ReadExpr(l[:n]); !ok && number != n+1 {
				t.Errorf("ReadExpr of the first %d of %q tells %d", n, w.text, number)
			}
		}
	}
}

// TestTokensAtEachPlace asks which tokens may follow in each state, and that no others may.
func TestTokensAtEachPlace(t *testing.T) {
	all := tokensOf(t, "n 7 0AH ( ) - + * DIV MOD . ; , : = INT")
	for _, w := range keptWords {
		all = append(all, wordAt(w, 0))
	}
	factors, between := "n 7 0AH INT ( -", "+ - * DIV MOD"
	for _, w := range []struct {
		ahead, may string
	}{
		{"", factors}, {"2 +", factors}, {"2 -", factors}, {"2 *", factors}, {"2 DIV", factors}, {"2 MOD", factors}, {"-", factors}, {"- -", factors}, {"(", factors}, {"2 * (", factors}, {"- (", factors},
		{"2", between}, {"- 2", between}, {"2 + 3", between}, {"2 * 3", between}, {"(2)", between}, {"- (2)", between}, {"B.k", between}, {"- B.k", between},
		{"n", between + " ."}, {"- n", between + " ."}, {"2 + n", between + " ."}, {"(2) * n", between + " ."},
		{"(2", between + " )"}, {"- (2", between + " )"}, {"((2)", between + " )"}, {"2 * (3 + 4", between + " )"}, {"(B.k", between + " )"}, {"(n", between + " . )"}, {"(2 * n", between + " . )"},
		{"n .", "n INT"}, {"(n .", "n INT"}, {"2 + n .", "n INT"},
	} {
		ahead := tokensOf(t, w.ahead)
		for _, token := range all {
			l := append(slices.Clip(ahead), token)
			checkTokens(t, l)
			_, number, ok := impl.ReadExpr(l)
			stands := ok || number == len(l)+1
			if may := slices.Contains(strings.Fields(w.may), token.Text); stands != may || !stands && number != len(l) {
				t.Errorf("%q behind %q: %d, %v", token.Text, w.ahead, number, ok)
			}
		}
	}
}

func TestTokensThatAreNotGoodAreNotRead(t *testing.T) {
	x, plus := nameAt("x", 0), signAt("+", 0)
	for _, bad := range badTokens() {
		for _, l := range [][]impl.Token{{bad}, {x, bad}, {x, plus, bad}, {bad, plus, x}, {x, x, bad}, {plus, bad}} {
			wantNotRead(t, l, 0)
		}
	}
}

// row1 tells 1 and as many further 1 with an operator between as asked for.
func row1(more int, operator string) string {
	return "1" + strings.Repeat(" "+operator+" 1", more)
}

func TestMostStepsOfTokens(t *testing.T) {
	for _, operator := range []string{"+", "-", "*", "DIV", "MOD"} {
		most, _, ok := impl.ReadExpr(tokensOf(t, row1(19, operator)))
		if len(most) != 39 || !ok {
			t.Errorf("%d steps of %q", len(most), operator)
		}
		most, _, ok = impl.ReadExpr(tokensOf(t, "-"+row1(19, operator)))
		if len(most) != 40 || !ok {
			t.Errorf("%d steps of %q and a minus", len(most), operator)
		}
		checkSteps(t, most, nil)
		wantNotRead(t, tokensOf(t, "- -"+row1(19, operator)), 0)
		wantNotRead(t, tokensOf(t, row1(20, operator)), 0)
		wantNotRead(t, tokensOf(t, row1(149, operator)), 0)
	}
	minus := strings.Repeat("- ", 39)
	wantRead(t, tokensOf(t, minus+"n"), append(steps("n"), slices.Repeat(steps("~"), 39)...))
	wantNotRead(t, tokensOf(t, "-"+minus+"n"), 0)
	wantNotRead(t, tokensOf(t, minus+"n + 1"), 0)
	wantNotRead(t, tokensOf(t, strings.Repeat("-", 299)+"n"), 0)
	// What is no expression has no steps: the token is told, however many are ahead of it or behind.
	wantNotRead(t, tokensOf(t, "-"+minus+"n END"), 42)
	wantNotRead(t, tokensOf(t, "-"+minus), 41)
	wantNotRead(t, tokensOf(t, row1(20, "+")+" +"), 43)
	wantNotRead(t, tokensOf(t, row1(20, "+")+" )"), 42)
	wantNotRead(t, tokensOf(t, "("+row1(20, "*")), 43)
	wantNotRead(t, tokensOf(t, "2 2 "+row1(20, "*")), 2)
	wantNotRead(t, tokensOf(t, row1(149, "-")+" -"), 301)
}

func TestMostTokensOfAnExpression(t *testing.T) {
	in := func(brackets int, text string) []impl.Token {
		return tokensOf(t, strings.Repeat("(", brackets)+text+strings.Repeat(")", brackets))
	}
	wantRead(t, in(148, "-B.k"), steps("B.k ~"))
	wantRead(t, in(149, "-n"), steps("n ~"))
	wantRead(t, in(149, "7"), steps("7"))
	wantNotRead(t, in(149, "7")[:298], 299)
	wantNotRead(t, slices.Repeat([]impl.Token{signAt("(", 0)}, 300), 301)
	// One more than MaxTokens are not good.
	l := slices.Concat(in(149, "-n"), []impl.Token{signAt(")", 0)})
	wantNotRead(t, l, 0)
	wantNotRead(t, slices.Repeat([]impl.Token{signAt(")", 0)}, 301), 0)
	wantNotRead(t, slices.Repeat([]impl.Token{nameAt("n", 0)}, 100000), 0)
	// A text of MaxText bytes has an expression; of one more there are no tokens.
	text := "2 *" + strings.Repeat(" ", impl.MaxText-10) + "(n+3)\n\n"
	wantRead(t, tokensOf(t, text), steps("2 n 3 + *"))
	none, _, _, ok := impl.ReadTokens(text + " ")
	if ok {
		t.Error("a text that is too long has tokens")
	}
	wantNotRead(t, none, 1)
	// The text of tokens may be too long where they are good: it is not asked for.
	long := slices.Repeat([]impl.Token{nameAt("abcdefghij", 0), signAt("+", 0)}, 149)
	wantNotRead(t, append(long, nameAt("x", 0)), 0)
}

// badSteps are such as no expression has.
func badSteps() []impl.Step {
	l := []impl.Step{
		{}, num(-1), num(impl.MaxWhole + 1), num(math.MaxInt), num(math.MinInt), num(-impl.MaxWhole), num(1 << 32),
		{Kind: impl.StNum, Mod: "B"}, {Kind: impl.StNum, Name: "n"}, {Kind: impl.StNum, Value: 2, Mod: "B", Name: "n"},
		{Kind: impl.StName}, {Kind: impl.StName, Mod: "B"}, {Kind: impl.StName, Name: "n", Value: 1}, {Kind: impl.StName, Name: "n", Value: -1}, {Kind: impl.StName, Mod: "B", Name: "n", Value: math.MinInt},
	}
	for _, kind := range []int{-1, 0, 9, 10, 256 + impl.StNum, 256 + impl.StAdd, 1 << 32, math.MaxInt, math.MinInt, -impl.StAdd, -impl.StNum} {
		l = append(l, impl.Step{Kind: kind}, impl.Step{Kind: kind, Value: 1}, impl.Step{Kind: kind, Name: "n"}, impl.Step{Kind: kind, Mod: "B", Name: "n"})
	}
	for kind := impl.StAdd; kind <= impl.StNeg; kind++ {
		for _, value := range []int{-1, 1, 2, impl.MaxWhole, math.MaxInt, math.MinInt} {
			l = append(l, impl.Step{Kind: kind, Value: value})
		}
		l = append(l, impl.Step{Kind: kind, Mod: "B"}, impl.Step{Kind: kind, Name: "n"}, impl.Step{Kind: kind, Mod: " "}, impl.Step{Kind: kind, Name: "+"})
	}
	for _, name := range badNames {
		l = append(l, of("", name), of("B", name))
		if name != "" {
			l = append(l, of(name, "n"), of(name, ""))
		}
	}
	return l
}

func TestStepsThatAreNotGood(t *testing.T) {
	for _, bad := range badSteps() {
		for _, e := range [][]impl.Step{{bad}, {num(1), bad}, {bad, num(1), does(impl.StAdd)}, {num(1), bad, does(impl.StSub)}, {num(1), num(2), bad}, {num(1), num(2), does(impl.StMul), bad}} {
			wantNothingOfSteps(t, e)
		}
	}
	wantNothingOfSteps(t, nil)
	wantNothingOfSteps(t, []impl.Step{})
}

func TestHowManyAreAheadOfSteps(t *testing.T) {
	for _, words := range []string{
		"1", "n", "B.k", "1 ~", "1 2 +", "1 2 3 + +", "1 2 + 3 +", "1 ~ ~", "1 2 ~ - ~", "1 2 3 4 - - -", "n B.k * 3 %",
	} {
		if !impl.GoodExpr(steps(words)) {
			t.Errorf("steps %q are not good", words)
		}
		checkSteps(t, steps(words), noted)
	}
	for _, words := range []string{
		"+", "-", "*", "/", "%", "~", "1 +", "1 -", "1 *", "1 /", "1 %", "n +", "+ 1", "~ 1", "1 + 2", "~ 1 +", "1 + 2 3 -", "~ 1 2 +", "1 2 + +", "1 2 + - 3", "+ 1 2", "1 ~ +", "1 2 + 3 + *",
		"+ 1 2 3", "~ 1 2 -", "1 + 2 3", // too few ahead, although one comes of them all
		"1 2", "n n", "1 2 ~", "1 2 3 +", "1 2 + 3", "1 ~ 2", "1 2 3 + 4 *", "B.k n 1",
	} {
		wantNothingOfSteps(t, steps(words))
	}
}

func TestMostSteps(t *testing.T) {
	for _, e := range [][]impl.Step{
		append(steps("7"), slices.Repeat(steps("~"), 39)...),
		slices.Concat(slices.Repeat(steps("n"), 20), slices.Repeat(steps("-"), 19), steps("~")),
		slices.Concat(steps("B.k"), slices.Repeat(steps("n ~ + ~"), 9), steps("~ ~ ~")),
		slices.Concat(steps("5"), slices.Repeat(steps("B.k +"), 19), steps("~")),
	} {
		if len(e) != 40 || !checkSteps(t, e, noted) {
			t.Errorf("%d steps are not good", len(e))
		}
		more := append(slices.Clone(e), does(impl.StNeg))
		wantNothingOfSteps(t, more)
		more[0] = impl.Step{}
		wantNothingOfSteps(t, more)
	}
	wantNothingOfSteps(t, slices.Concat(slices.Repeat(steps("n"), 21), slices.Repeat(steps("-"), 20)))
	wantNothingOfSteps(t, slices.Repeat(steps("1"), 40))
	wantNothingOfSteps(t, append(steps("1"), make([]impl.Step, 100000)...))
}

func TestValuesOfSteps(t *testing.T) {
	for _, w := range []struct {
		steps string
		value int
	}{
		{"0", 0}, {"7", 7}, {"n", 4}, {"B.k", 5}, {"zero", 0}, {"below", -7},
		{"7 ~", -7}, {"7 ~ ~", 7}, {"0 ~", 0}, {"below ~", 7}, {"zero ~", 0},
		{"7 2 +", 9}, {"7 below +", 0}, {"2 7 +", 9}, {"7 2 -", 5}, {"2 7 -", -5}, {"2 below -", 9}, {"7 2 *", 14}, {"2 below *", -14}, {"below below *", 49}, {"7 0 *", 0}, {"0 7 -", -7},
		{"7 2 /", 3}, {"7 2 %", 1}, {"below 2 /", -4}, {"below 2 %", 1}, {"7 2 ~ /", -4}, {"7 2 ~ %", -1}, {"below 2 ~ /", 3}, {"below 2 ~ %", -1},
		{"6 2 /", 3}, {"6 2 %", 0}, {"6 ~ 2 /", -3}, {"6 ~ 2 %", 0}, {"6 2 ~ /", -3}, {"6 2 ~ %", 0}, {"6 ~ 2 ~ /", 3}, {"6 ~ 2 ~ %", 0}, {"0 5 /", 0}, {"0 5 %", 0}, {"0 5 ~ /", 0}, {"0 5 ~ %", 0},
		{"1 5 /", 0}, {"1 5 %", 1}, {"1 ~ 5 /", -1}, {"1 ~ 5 %", 4}, {"1 5 ~ /", -1}, {"1 5 ~ %", -4}, {"1 ~ 5 ~ /", 0}, {"1 ~ 5 ~ %", -1},
		{"2 n B.k + * 3 ~ -", 21}, {"10 3 - 2 -", 5}, {"10 3 2 - -", 9}, {"100 10 / 5 /", 2}, {"100 10 5 / /", 50}, {"2 3 4 * +", 14}, {"2 3 + 4 *", 20}, {"2 3 * ~ 4 %", 2},
	} {
		wantValue(t, steps(w.steps), noted, w.value, 0)
		checkSteps(t, steps(w.steps), noted)
	}
}

func TestFloorsAndWhatIsLeft(t *testing.T) {
	numbers := []int{-impl.MaxWhole, -impl.MaxWhole + 1, -999999937, -31623, 31623, 500000000, 999999937, impl.MaxWhole - 1, impl.MaxWhole}
	for n := -13; n <= 13; n++ {
		numbers = append(numbers, n)
	}
	for _, a := range numbers {
		for _, b := range numbers {
			known := []impl.Known{{Name: "a", Value: a}, {Name: "b", Value: b}}
			if b == 0 {
				wantValue(t, steps("a b /"), known, 0, 2)
				wantValue(t, steps("a b %"), known, 0, 2)
				continue
			}
			floor, code, _ := impl.EvalExpr(steps("a b /"), known)
			left, other, _ := impl.EvalExpr(steps("a b %"), known)
			if code != 0 || other != 0 || floor*b+left != a || left*b < 0 || left*left >= b*b {
				t.Errorf("%d by %d: %d, and %d left, codes %d and %d", a, b, floor, left, code, other)
			}
		}
	}
}

func TestNamesThatAreKnown(t *testing.T) {
	known := []impl.Known{{Name: "n", Value: 1}, {Mod: "B", Name: "n", Value: 2}, {Mod: "B", Name: "n", Value: 3}, {Name: "n", Value: 4}, {Mod: "n", Name: "B", Value: 5}, {Mod: "C", Name: "k", Value: 6}, {Name: "K", Value: 7}}
	for _, w := range []struct {
		steps       string
		value, code int
	}{
		{"n", 1, 0}, {"B.n", 2, 0}, {"n.B", 5, 0}, {"C.k", 6, 0}, {"K", 7, 0}, {"n B.n -", -1, 0},
		{"B", 0, 1}, {"k", 0, 1}, {"C.n", 0, 1}, {"n.n", 0, 1}, {"B.B", 0, 1}, {"B.k", 0, 1}, {"C.K", 0, 1}, {"N", 0, 1}, {"b.n", 0, 1}, {"nn", 0, 1}, {"K.n", 0, 1}, {"Bn", 0, 1}, {"n x +", 0, 1}, {"x n +", 0, 1}, {"x ~", 0, 1}, {"0 x *", 0, 1},
	} {
		wantValue(t, steps(w.steps), known, w.value, w.code)
		checkSteps(t, steps(w.steps), known)
	}
	slices.Reverse(known)
	wantValue(t, steps("n"), known, 4, 0)
	wantValue(t, steps("B.n"), known, 3, 0)
	wantValue(t, steps("n"), nil, 0, 1)
	wantValue(t, steps("3"), nil, 3, 0)
	// Only their Values are asked: what is called otherwise is just never met.
	odd := []impl.Known{{}, {Name: "not a name", Value: 1}, {Mod: "\xff", Name: "n", Value: 2}, {Mod: "B", Value: 3}, {Name: "n", Value: 8}}
	wantValue(t, steps("n"), odd, 8, 0)
	wantValue(t, steps("B.n"), odd, 0, 1)
	// A word that is kept may be known.
	wantValue(t, steps("END"), []impl.Known{{Name: "END", Value: 9}}, 9, 0)
}

func TestHowManyAreKnown(t *testing.T) {
	var known []impl.Known
	for n := range 40 {
		known = append(known, impl.Known{Name: "x" + strconv.Itoa(n), Value: n})
	}
	wantValue(t, steps("x0 x39 +"), known, 39, 0)
	wantValue(t, steps("x40"), known, 0, 1)
	checkSteps(t, steps("x39 1 +"), known)
	known = append(known, impl.Known{Name: "x40", Value: 40})
	for _, e := range [][]impl.Step{steps("x0"), steps("x40"), steps("7"), steps("x41"), steps("1 0 /")} {
		wantNoValue(t, e, known)
		wantNoValue(t, e, make([]impl.Known, 41))
		wantNoValue(t, e, make([]impl.Known, 100000))
		checkSteps(t, e, make([]impl.Known, 40))
	}
}

func TestValuesOfKnownOnes(t *testing.T) {
	for _, value := range []int{0, 1, -1, impl.MaxWhole, -impl.MaxWhole, impl.MaxWhole - 1, -impl.MaxWhole + 1} {
		wantValue(t, steps("x"), []impl.Known{{Name: "x", Value: value}}, value, 0)
		wantValue(t, steps("x ~"), []impl.Known{{Name: "x", Value: value}}, -value, 0)
	}
	for _, value := range []int{impl.MaxWhole + 1, -impl.MaxWhole - 1, 1 << 32, math.MaxInt, math.MinInt} {
		// Wherever it stands, and whether it is met or not.
		for _, known := range [][]impl.Known{
			{{Name: "x", Value: value}}, {{Name: "n"}, {Name: "x", Value: value}}, {{Name: "x", Value: value}, {Name: "n"}}, {{Name: "n", Value: 1}, {Name: "n", Value: value}}, {{Value: value}},
		} {
			for _, words := range []string{"x", "n", "7", "y", "1 0 /"} {
				wantNoValue(t, steps(words), known)
			}
		}
	}
}

func TestGreatestValues(t *testing.T) {
	for _, w := range []struct {
		steps       string
		value, code int
	}{
		{"1000000000", 1000000000, 0}, {"1000000000 ~", -1000000000, 0}, {"1000000000 ~ ~", 1000000000, 0}, {"most", 1000000000, 0}, {"least", -1000000000, 0}, {"least ~", 1000000000, 0}, {"most ~", -1000000000, 0},
		{"most 0 +", 1000000000, 0}, {"999999999 1 +", 1000000000, 0}, {"most 1 +", 0, 3}, {"1 most +", 0, 3}, {"least 1 ~ +", 0, 3}, {"least 1 +", -999999999, 0}, {"most most +", 0, 3}, {"least least +", 0, 3}, {"most least +", 0, 0},
		{"0 most -", -1000000000, 0}, {"0 least -", 1000000000, 0}, {"1 most -", -999999999, 0}, {"1 ~ most -", 0, 3}, {"1 least -", 0, 3}, {"least 1 -", 0, 3}, {"most 1 ~ -", 0, 3}, {"least most -", 0, 3}, {"most least -", 0, 3}, {"most most -", 0, 0},
		{"most 1 *", 1000000000, 0}, {"most 1 ~ *", -1000000000, 0}, {"least 1 ~ *", 1000000000, 0}, {"500000000 2 *", 1000000000, 0}, {"500000001 2 *", 0, 3}, {"500000000 2 ~ *", -1000000000, 0}, {"500000001 2 ~ *", 0, 3},
		{"31622 31622 *", 999950884, 0}, {"31623 31623 *", 0, 3}, {"65536 65536 *", 0, 3}, {"most most *", 0, 3}, {"least least *", 0, 3}, {"most least *", 0, 3}, {"most 2 *", 0, 3},
		{"most 1 /", 1000000000, 0}, {"least 1 ~ /", 1000000000, 0}, {"least 1 /", -1000000000, 0}, {"most least /", -1, 0}, {"999999999 least /", -1, 0}, {"1 least %", -999999999, 0}, {"least most %", 0, 0}, {"1 ~ most %", 999999999, 0},
		// On the way.
		{"most 1 + 1 -", 0, 3}, {"1 most 1 + -", 0, 3}, {"most most * most /", 0, 3}, {"most 1 + 0 *", 0, 3}, {"most 1 + most 1 + -", 0, 3}, {"most 1 - 1 +", 1000000000, 0}, {"0 most 2 * *", 0, 3}, {"most 1 + ~", 0, 3}, {"0 most 1 + /", 0, 3},
	} {
		wantValue(t, steps(w.steps), noted, w.value, w.code)
		checkSteps(t, steps(w.steps), noted)
	}
}

func TestFirstFaultIsMet(t *testing.T) {
	for _, w := range []struct {
		steps string
		code  int
	}{
		{"x", 1}, {"1 0 /", 2}, {"1 0 %", 2}, {"most 1 +", 3}, {"0 0 /", 2}, {"0 0 %", 2}, {"1 zero /", 2}, {"1 zero %", 2}, {"1 n n - /", 2}, {"1 zero ~ /", 2},
		{"1 0 / x +", 2}, {"x 1 0 / +", 1}, {"1 0 % most most * -", 2}, {"most most * 1 0 % -", 3}, {"most most * x -", 3}, {"x most most * -", 1},
		{"x 0 /", 1}, {"x 0 %", 1}, {"most 1 + 0 /", 3}, {"1 0 / 0 /", 2}, {"1 x 0 / /", 1}, {"0 x /", 1}, {"1 0 / most + x *", 2}, {"most 1 + 1 0 / x - -", 3}, {"n B.x zero / -", 1}, {"1 0 0 / x * -", 2}, {"x 1 0 / most most * + +", 1},
	} {
		wantValue(t, steps(w.steps), noted, 0, w.code)
		checkSteps(t, steps(w.steps), noted)
	}
}

func TestTextsOfExpressions(t *testing.T) {
	for _, w := range []struct {
		steps, text string
	}{
		{"2", "2"}, {"0", "0"}, {"999999999", "999999999"}, {"n", "n"}, {"B.k", "B . k"}, {"INT", "INT"},
		{"2 3 +", "2 + 3"}, {"2 3 -", "2 - 3"}, {"2 3 *", "2 * 3"}, {"2 3 /", "2 DIV 3"}, {"2 3 %", "2 MOD 3"}, {"2 ~", "- 2"}, {"n ~", "- n"}, {"B.k ~", "- B . k"}, {"2 ~ ~", "- - 2"},
		// On the right of + and -, and on the left.
		{"2 3 4 + +", "2 + ( 3 + 4 )"}, {"2 3 4 - +", "2 + ( 3 - 4 )"}, {"2 3 4 + -", "2 - ( 3 + 4 )"}, {"2 3 4 - -", "2 - ( 3 - 4 )"}, {"2 3 + 4 +", "2 + 3 + 4"}, {"2 3 - 4 -", "2 - 3 - 4"}, {"2 3 + 4 -", "2 + 3 - 4"}, {"2 3 - 4 +", "2 - 3 + 4"},
		{"2 3 4 * +", "2 + 3 * 4"}, {"2 3 4 / -", "2 - 3 DIV 4"}, {"2 3 4 % -", "2 - 3 MOD 4"}, {"2 3 * 4 +", "2 * 3 + 4"}, {"2 3 / 4 -", "2 DIV 3 - 4"}, {"2 3 ~ +", "2 + - 3"}, {"2 3 ~ -", "2 - - 3"}, {"2 ~ 3 -", "- 2 - 3"},
		// Taken by *, DIV and MOD.
		{"2 3 + 4 *", "( 2 + 3 ) * 4"}, {"2 3 - 4 /", "( 2 - 3 ) DIV 4"}, {"2 3 + 4 %", "( 2 + 3 ) MOD 4"}, {"2 3 4 + *", "2 * ( 3 + 4 )"}, {"2 3 4 - /", "2 DIV ( 3 - 4 )"}, {"2 3 4 - %", "2 MOD ( 3 - 4 )"},
		{"2 3 * 4 *", "2 * 3 * 4"}, {"2 3 / 4 %", "2 DIV 3 MOD 4"}, {"2 3 % 4 *", "2 MOD 3 * 4"}, {"2 3 4 * *", "2 * ( 3 * 4 )"}, {"2 3 4 / *", "2 * ( 3 DIV 4 )"}, {"2 3 4 % *", "2 * ( 3 MOD 4 )"}, {"2 3 4 * /", "2 DIV ( 3 * 4 )"}, {"2 3 4 % /", "2 DIV ( 3 MOD 4 )"}, {"2 3 4 * %", "2 MOD ( 3 * 4 )"},
		{"2 ~ 3 *", "- 2 * 3"}, {"2 3 ~ *", "2 * - 3"}, {"2 ~ 3 ~ /", "- 2 DIV - 3"}, {"2 3 ~ ~ %", "2 MOD - - 3"},
		// Taken by a minus.
		{"2 3 + ~", "- ( 2 + 3 )"}, {"2 3 - ~", "- ( 2 - 3 )"}, {"2 3 * ~", "- ( 2 * 3 )"}, {"2 3 / ~", "- ( 2 DIV 3 )"}, {"2 3 % ~", "- ( 2 MOD 3 )"}, {"2 3 + ~ ~", "- - ( 2 + 3 )"}, {"2 3 * ~ 4 *", "- ( 2 * 3 ) * 4"}, {"2 3 + ~ 4 +", "- ( 2 + 3 ) + 4"}, {"4 2 3 * ~ *", "4 * - ( 2 * 3 )"}, {"4 2 3 - ~ -", "4 - - ( 2 - 3 )"},
		{"2 n B.k + * 3 ~ -", "2 * ( n + B . k ) - - 3"}, {"2 3 - 4 5 - -", "2 - 3 - ( 4 - 5 )"}, {"2 3 - 4 5 - *", "( 2 - 3 ) * ( 4 - 5 )"}, {"2 3 4 5 - - -", "2 - ( 3 - ( 4 - 5 ) )"}, {"2 3 4 5 * * *", "2 * ( 3 * ( 4 * 5 ) )"}, {"2 3 4 * 5 + -", "2 - ( 3 * 4 + 5 )"},
	} {
		wantExprText(t, steps(w.steps), w.text, true)
		checkSteps(t, steps(w.steps), noted)
	}
}

// TestStepsWithoutText: what no token tells has no text, but is good for all else.
func TestStepsWithoutText(t *testing.T) {
	for _, words := range []string{"1000000000", "1000000000 ~", "1000000000 0 *", "0 1000000000 *", "n 1000000000 /", "1 2 1000000000 + +"} {
		wantExprText(t, steps(words), "", false)
		checkSteps(t, steps(words), noted)
		less := strings.ReplaceAll(words, "1000000000", "999999999")
		wantReadAgain(t, steps(less))
	}
	for _, word := range keptWords {
		for _, e := range [][]impl.Step{{named(word)}, {of("B", word)}, {of(word, "k")}, {of(word, word)}, {named(word), does(impl.StNeg)}, {num(1), named(word), does(impl.StAdd)}, {of(word, "k"), num(1), does(impl.StMul)}} {
			wantExprText(t, e, "", false)
			checkSteps(t, e, []impl.Known{{Name: word, Value: 3}, {Mod: word, Name: "k", Value: 4}})
		}
		near := strings.ToLower(word)
		wantExprText(t, []impl.Step{of(near, near+"x")}, near+" . "+near+"x", true)
	}
}

// TestLongestTexts: no good steps have a text that comes near MaxText bytes.
func TestLongestTexts(t *testing.T) {
	longest := slices.Concat(slices.Repeat(steps("abcdefghij.klmnopqrst"), 20), slices.Repeat(steps("/"), 19), steps("~"))
	text, ok := impl.ExprText(longest)
	if len(longest) != impl.MaxSteps || len(text) != 633 || !ok {
		t.Errorf("%d bytes of %d steps, %v", len(text), len(longest), ok)
	}
	wantReadAgain(t, longest)
	wantExprText(t, longest, "- ( "+strings.Repeat("abcdefghij . klmnopqrst DIV ( ", 18)+"abcdefghij . klmnopqrst DIV abcdefghij . klmnopqrst"+strings.Repeat(" )", 19), true)
}

func TestNamesOfExpressions(t *testing.T) {
	use := func(mod, name string) impl.Use { return impl.Use{Mod: mod, Name: name} }
	for _, w := range []struct {
		steps string
		names []impl.Use
	}{
		{"7", nil}, {"7 8 + ~", nil}, {"n", []impl.Use{use("", "n")}}, {"B.k", []impl.Use{use("B", "k")}}, {"n n +", []impl.Use{use("", "n")}}, {"B.k 1 B.k + *", []impl.Use{use("B", "k")}},
		{"2 n B.k + * 3 ~ -", []impl.Use{use("", "n"), use("B", "k")}}, {"z a - m *", []impl.Use{use("", "z"), use("", "a"), use("", "m")}},
		{"k B.k C.k n.k k.n + + + +", []impl.Use{use("", "k"), use("B", "k"), use("C", "k"), use("n", "k"), use("k", "n")}},
		{"a b a c b a + + + + +", []impl.Use{use("", "a"), use("", "b"), use("", "c")}}, {"END MOD.OF +", []impl.Use{use("", "END"), use("MOD", "OF")}}, {"n N +", []impl.Use{use("", "n"), use("", "N")}},
	} {
		wantNamesIn(t, steps(w.steps), w.names)
		checkSteps(t, steps(w.steps), noted)
	}
	var many []impl.Step
	var names []impl.Use
	for n := range 20 {
		names = append(names, use("B", "x"+strconv.Itoa(19-n)))
		many = append(many, of("B", names[n].Name))
	}
	wantNamesIn(t, append(many, slices.Repeat(steps("+"), 19)...), names)
}

func TestExpressionsAreFolded(t *testing.T) {
	for _, w := range []struct {
		steps, folded string
	}{
		{"0", "0"}, {"7", "7"}, {"0 ~", "0"}, {"7 ~", "7 ~"}, {"7 ~ ~", "7"}, {"7 ~ ~ ~", "7 ~"}, {"n", "4"}, {"below", "7 ~"}, {"below ~", "7"}, {"zero", "0"}, {"2 3 +", "5"}, {"2 3 -", "1 ~"}, {"3 3 -", "0"}, {"n below *", "28 ~"}, {"2 n B.k + * 3 ~ -", "21"},
		{"most", "1000000000"}, {"least", "1000000000 ~"}, {"1000000000", "1000000000"}, {"1 ~", "1 ~"}, {"0 7 - 2 /", "4 ~"},
		// What has a fault stays as it is, and no part of it is folded.
		{"x", "x"}, {"B.x", "B.x"}, {"1 0 /", "1 0 /"}, {"1 zero %", "1 zero %"}, {"most 1 +", "most 1 +"}, {"1 2 + x *", "1 2 + x *"}, {"n B.k + zero /", "n B.k + zero /"}, {"x ~ ~", "x ~ ~"}, {"1000000000 2 * END -", "1000000000 2 * END -"},
	} {
		wantFolded(t, steps(w.steps), noted, steps(w.folded))
		checkSteps(t, steps(w.steps), noted)
		wantFolded(t, steps(w.folded), noted, steps(w.folded))
	}
	wantFolded(t, steps("n 1 +"), nil, steps("n 1 +"))
	wantFolded(t, steps("2 1 +"), nil, steps("3"))
	most := append(steps("x"), slices.Repeat(steps("~"), 39)...)
	wantFolded(t, most, noted, most)
}

func TestExprArgumentsAreNotWrittenInto(t *testing.T) {
	for _, e := range [][]impl.Step{
		steps("2 n B.k + * 3 ~ -"), steps("1 2 + x *"), steps("1 0 /"), steps("n ~"), steps("7"), steps("1 2"), steps("+"), steps("most most *"), slices.Repeat(steps("n"), 41), append(steps("n"), slices.Repeat(steps("~"), 39)...),
		slices.Concat(steps("a b c d"), slices.Repeat(steps("-"), 3)), {{}, num(1)},
	} {
		room := slices.Concat(e, steps("3 +"), []impl.Step{{Kind: 77, Value: 7, Mod: "far", Name: "far"}})
		knownRoom := append(slices.Clone(noted), impl.Known{Name: "x", Value: 3}, impl.Known{Name: "far", Value: math.MaxInt})
		kept, knownKept := slices.Clone(room), slices.Clone(knownRoom)
		part, known := room[:len(e)], knownRoom[:len(noted)]
		for range 2 {
			checkSteps(t, part, known)
			impl.GoodExpr(part)
			impl.EvalExpr(part, known)
			impl.FoldExpr(part, known)
			impl.NamesIn(part)
			impl.ExprText(part)
			impl.EvalExpr(part, knownRoom)
			impl.FoldExpr(part, knownRoom)
		}
		if !slices.Equal(room, kept) || !slices.Equal(knownRoom, knownKept) {
			t.Errorf("written into %v or %v", room, knownRoom)
		}
	}
	for _, w := range textsRead {
		l := tokensOf(t, w.text)
		room := slices.Concat(l, tokensOf(t, ". n + 1 ;"), []impl.Token{{Kind: 77}})
		kept := slices.Clone(room)
		wantRead(t, room[:len(l)], steps(w.steps))
		impl.ReadExpr(room[:len(l)-1])
		impl.ReadExpr(room[:len(l)+5])
		impl.ReadExpr(room)
		if !slices.Equal(room, kept) {
			t.Errorf("written into the tokens of %q", w.text)
		}
	}
}

// apart asks that two lists share no memory, with what lies behind their lengths.
func apart[A, B any](t *testing.T, a []A, b []B) {
	t.Helper()
	one, other := spanOf(a), spanOf(b)
	if one.from < other.to && other.from < one.to {
		t.Errorf("%v and %v share memory", a, b)
	}
}

func apartTexts(t *testing.T, given []string, told ...string) {
	t.Helper()
	for _, text := range told {
		for _, other := range given {
			if overlap(text, other) {
				t.Errorf("%q is a part of an argument", text)
			}
		}
	}
}

func TestReadStepsAreNewMemory(t *testing.T) {
	l := tokensOf(t, "2 * (name + Mod.other) - - long")
	first, _, ok := impl.ReadExpr(l)
	second, _, _ := impl.ReadExpr(l)
	if !ok || len(first) != 8 {
		t.Fatal("steps", first)
	}
	var given []string
	for _, token := range l {
		given = append(given, token.Text)
	}
	for _, s := range first {
		apartTexts(t, given, s.Mod, s.Name)
	}
	apart(t, first, second)
	clear(first[:cap(first)])
	if !slices.Equal(second, steps("2 name Mod.other + * long ~ -")) {
		t.Error("two answers share memory", second)
	}
}

func TestExprAnswersAreNewMemory(t *testing.T) {
	e := []impl.Step{of(strings.Clone("Mod"), strings.Clone("other")), named(strings.Clone("name")), num(0), does(impl.StDiv), does(impl.StAdd)}
	before := slices.Clone(e)
	given := []string{e[0].Mod, e[0].Name, e[1].Name}
	known := []impl.Known{{Mod: "Mod", Name: "other", Value: 3}, {Name: "name", Value: -4}}
	names, _ := impl.NamesIn(e)
	again, _ := impl.NamesIn(e)
	apart(t, names, again)
	for _, use := range names {
		apartTexts(t, given, use.Mod, use.Name)
	}
	clear(names[:cap(names)])
	if !slices.Equal(again, []impl.Use{{Mod: "Mod", Name: "other"}, {Name: "name"}}) {
		t.Error("two answers of NamesIn share memory", again)
	}
	// Steps that stay as they are have memory of their own, and so have such as are folded.
	for _, steps := range [][]impl.Step{e, e[:1], e[1:2], {e[1], num(2), does(impl.StMul)}} {
		first, ok := impl.FoldExpr(steps, known)
		second, _ := impl.FoldExpr(steps, known)
		kept := slices.Clone(second)
		apart(t, first, second)
		apart(t, first, e)
		apart(t, first, known)
		for _, s := range first {
			apartTexts(t, given, s.Mod, s.Name)
		}
		clear(first[:cap(first)])
		if !ok || !slices.Equal(second, kept) || !slices.Equal(e, before) {
			t.Error("two answers of FoldExpr share memory", second)
		}
	}
	for _, s := range e[:2] {
		text, ok := impl.ExprText([]impl.Step{s})
		if !ok {
			t.Error("no text of", s)
		}
		apartTexts(t, given, text)
	}
	if !reflect.DeepEqual(e, before) {
		t.Error("written into", e)
	}
}
