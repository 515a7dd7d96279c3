package tests

import (
	"math"
	"regexp"
	"slices"
	"strings"
	"testing"
	"unsafe"

	"loop.example/g00837/impl"
)

var keptWords = []string{
	"MODULE", "IMPORT", "CONST", "TYPE", "VAR", "PROC", "USE", "END", "ARRAY", "OF", "RECORD", "POINTER", "TO", "DIV", "MOD",
}

var allSigns = []string{";", ",", ".", ":", "=", "*", "-", "+", "(", ")"}

func nameAt(text string, at int) impl.Token {
	return impl.Token{Kind: impl.TkName, Text: text, At: at}
}

func wordAt(text string, at int) impl.Token {
	return impl.Token{Kind: impl.TkWord, Text: text, At: at}
}

func numberAt(text string, value, at int) impl.Token {
	return impl.Token{Kind: impl.TkNumber, Text: text, Value: value, At: at}
}

func signAt(text string, at int) impl.Token {
	return impl.Token{Kind: impl.TkSign, Text: text, At: at}
}

func wantTokens(t *testing.T, s string, want ...impl.Token) {
	t.Helper()
	l, code, at, ok := impl.ReadTokens(s)
	if !slices.Equal(l, want) || code != 0 || at != 0 || !ok {
		t.Errorf("ReadTokens(%q) = %v, %d, %d, %v, want %v", s, l, code, at, ok, want)
	}
}

func wantFault(t *testing.T, s string, code, at int) {
	t.Helper()
	l, gotCode, gotAt, ok := impl.ReadTokens(s)
	if len(l) != 0 || gotCode != code || gotAt != at || ok {
		t.Errorf("ReadTokens(%q) = %v, %d, %d, %v, want code %d at %d", s, l, gotCode, gotAt, ok, code, at)
	}
}

func TestTokensOfTexts(t *testing.T) {
	wantTokens(t, "")
	wantTokens(t, " ")
	wantTokens(t, " \n\n  \n")
	wantTokens(t, "a", nameAt("a", 0))
	wantTokens(t, "\n a \n", nameAt("a", 2))
	wantTokens(t, "END", wordAt("END", 0))
	wantTokens(t, "END END", wordAt("END", 0), wordAt("END", 4))
	wantTokens(t, "0", numberAt("0", 0, 0))
	wantTokens(t, "a1b2 3", nameAt("a1b2", 0), numberAt("3", 3, 5))
	wantTokens(t, "MODULE M; END M.",
		wordAt("MODULE", 0), nameAt("M", 7), signAt(";", 8), wordAt("END", 10), nameAt("M", 14), signAt(".", 15))
	wantTokens(t, "CONST c*=-(0FFH+12);",
		wordAt("CONST", 0), nameAt("c", 6), signAt("*", 7), signAt("=", 8), signAt("-", 9), signAt("(", 10),
		numberAt("0FFH", 255, 11), signAt("+", 15), numberAt("12", 12, 16), signAt(")", 18), signAt(";", 19))
	wantTokens(t, "VAR\nx:ARRAY 3\nOF INT",
		wordAt("VAR", 0), nameAt("x", 4), signAt(":", 5), wordAt("ARRAY", 6), numberAt("3", 3, 12), wordAt("OF", 14), nameAt("INT", 17))
	wantTokens(t, "a.b,c", nameAt("a", 0), signAt(".", 1), nameAt("b", 2), signAt(",", 3), nameAt("c", 4))
	wantTokens(t, "1.2", numberAt("1", 1, 0), signAt(".", 1), numberAt("2", 2, 2))
	wantTokens(t, "-5", signAt("-", 0), numberAt("5", 5, 1))
}

func TestEverySign(t *testing.T) {
	for _, s := range allSigns {
		wantTokens(t, s, signAt(s, 0))
		wantTokens(t, " \n"+s, signAt(s, 2))
		wantTokens(t, "a"+s+"1", nameAt("a", 0), signAt(s, 1), numberAt("1", 1, 2))
		for _, next := range allSigns {
			if s+next != "(*" {
				wantTokens(t, s+next, signAt(s, 0), signAt(next, 1))
			}
			wantTokens(t, s+" "+next, signAt(s, 0), signAt(next, 2))
		}
	}
}

func TestWordsThatAreKept(t *testing.T) {
	for _, w := range keptWords {
		if !impl.IsWord(w) {
			t.Errorf("IsWord(%q) tells false", w)
		}
		wantTokens(t, w, wordAt(w, 0))
		wantTokens(t, "("+w+";", signAt("(", 0), wordAt(w, 1), signAt(";", 1+len(w)))
		for _, near := range []string{w + "s", w + "S", w + "1", "x" + w, strings.ToLower(w), w[:1] + strings.ToLower(w[1:]), w[:len(w)-1], w[1:]} {
			if slices.Contains(keptWords, near) {
				continue
			}
			if impl.IsWord(near) {
				t.Errorf("IsWord(%q) tells true", near)
			}
			wantTokens(t, near, nameAt(near, 0))
		}
	}
	for _, s := range []string{"", " ", "END ", " END", "END;", "END\n", "END\x00", "MODULE IMPORT", "INT", "BOOL", "CHAR", "x", "H", "\xff"} {
		if impl.IsWord(s) {
			t.Errorf("IsWord(%q) tells true", s)
		}
	}
}

var numbersTold = []struct {
	text  string
	value int
}{
	{"0", 0}, {"9", 9}, {"10", 10}, {"007", 7}, {"000000000", 0}, {"123456789", 123456789}, {"999999999", 999999999},
	{"0H", 0}, {"9H", 9}, {"0AH", 10}, {"0FH", 15}, {"10H", 16}, {"0FFH", 255}, {"1A2B3CH", 0x1a2b3c}, {"0DEH", 0xde},
	{"0000000H", 0}, {"0FFFFFFH", 0xffffff}, {"1234567H", 0x1234567}, {"9ABCDEFH", 0x9abcdef}, {"9FFFFFFH", 0x9ffffff},
}

// runsThatAreNone begin with a digit, go on with letters and digits, and are no numbers.
var runsThatAreNone = []string{
	"1234567890", "0000000000", "9999999999", "12X", "0A", "0FF", "1F", "0x1", "0h", "0ah", "0aH", "0FfH", "0GH", "0HH", "1H1", "0H0", "9e3",
	"00000000H", "12345678H", "9FFFFFFFH", "123456789H", "1234567890H", "0O", "1H2H", "99999999999999999999", "0b1", "1l",
}

func wantNumber(t *testing.T, s string, want int, good bool) {
	t.Helper()
	if n, ok := impl.NumberOf(s); n != want || ok != good {
		t.Errorf("NumberOf(%q) = %d, %v, want %d, %v", s, n, ok, want, good)
	}
}

func TestNumbersOfDigits(t *testing.T) {
	for _, w := range numbersTold {
		wantNumber(t, w.text, w.value, true)
		wantTokens(t, w.text, numberAt(w.text, w.value, 0))
		wantTokens(t, "-"+w.text+")", signAt("-", 0), numberAt(w.text, w.value, 1), signAt(")", 1+len(w.text)))
	}
	for _, s := range runsThatAreNone {
		wantNumber(t, s, 0, false)
		wantFault(t, s, 3, 0)
		wantFault(t, "a + "+s+" ;", 3, 4)
	}
	for _, s := range []string{
		"", "H", "AH", "FFH", "A0H", "ABCDEFH", "a", "-1", "+1", " 1", "1 ", "1\n", "1 H", "1.0", "1,0", "1\x00", "\x001",
		"\xff", "1\xff", "1\xffH", "\u0661", "1\u0661", "1\uff21H", "1\ufffdH", "\uff11", "1\u0130", strings.Repeat("1", 5000), strings.Repeat("1", 5000) + "H",
	} {
		wantNumber(t, s, 0, false)
	}
}

// TestDigitsByEachByte asks for each byte at each place of a number.
func TestDigitsByEachByte(t *testing.T) {
	for c := range 256 {
		one := string([]byte{byte(c)})
		decimal := strings.Index("0123456789", one)
		sixteen := strings.Index("0123456789ABCDEF", one)
		wantNumber(t, one, max(decimal, 0), decimal >= 0)
		wantNumber(t, one+"H", max(decimal, 0), decimal >= 0)
		switch {
		case c == 'H':
			wantNumber(t, "7"+one, 7, true)
		case decimal >= 0:
			wantNumber(t, "7"+one, 70+decimal, true)
		default:
			wantNumber(t, "7"+one, 0, false)
		}
		want := 0
		if sixteen >= 0 {
			want = 7*256 + sixteen*16 + 2
		}
		wantNumber(t, "7"+one+"2H", want, sixteen >= 0)
	}
}

func TestLongestNamesAndLonger(t *testing.T) {
	wantTokens(t, "abcdefghij", nameAt("abcdefghij", 0))
	wantTokens(t, "A123456789.", nameAt("A123456789", 0), signAt(".", 10))
	wantTokens(t, "POINTERabc", nameAt("POINTERabc", 0))
	wantFault(t, "abcdefghijk", 3, 0)
	wantFault(t, "A1234567890", 3, 0)
	wantFault(t, "POINTERabcd", 3, 0)
	wantFault(t, "MODULEMODULE", 3, 0)
	wantFault(t, "; \nabcdefghijk;", 3, 3)
	wantFault(t, "abcdefghij abcdefghijk", 3, 11)
	wantFault(t, strings.Repeat("a", impl.MaxText), 3, 0)
	wantFault(t, strings.Repeat("1", impl.MaxText), 3, 0)
}

func TestRemarksArePassedOver(t *testing.T) {
	for _, s := range []string{
		"(**)", "(***)", "(****)", "(* *)", "(*)*)", "(*a*)", "(* a (* b *) *)", "(*(**)*)", "(*(*(**)*)*)", "(*(**)(**)*)", "(*(*)*)*)",
		"(*((**)*)", "(*(***)*)", "(* ? \x00 \t \xff \xc3\xa4 \ufffd abcdefghijklmn 12X *)", "(*\n*)", "(* ) ( * *)", "(**)(**)", "(**) (* *)\n(*a*)",
		"(*\xff*)", "(*(*\xc3*)\xa4*)", "(*" + strings.Repeat("?", impl.MaxText-20) + "*)", strings.Repeat("(*", 200) + strings.Repeat("*)", 200),
	} {
		long := len(s)
		wantTokens(t, s)
		wantTokens(t, s+"x", nameAt("x", long))
		wantTokens(t, "x"+s, nameAt("x", 0))
		wantTokens(t, "x"+s+"y", nameAt("x", 0), nameAt("y", long+1))
		wantTokens(t, "1"+s+"2", numberAt("1", 1, 0), numberAt("2", 2, long+1))
		wantTokens(t, "("+s+")", signAt("(", 0), signAt(")", long+1))
		wantTokens(t, ":"+s+"=\n", signAt(":", 0), signAt("=", long+1))
		wantTokens(t, s+"*)", signAt("*", long), signAt(")", long+1))
	}
	wantTokens(t, "*)", signAt("*", 0), signAt(")", 1))
	wantTokens(t, "( * x * )", signAt("(", 0), signAt("*", 2), nameAt("x", 4), signAt("*", 6), signAt(")", 8))
	wantTokens(t, "(\n*)", signAt("(", 0), signAt("*", 2), signAt(")", 3))
	wantTokens(t, "((**)*)", signAt("(", 0), signAt("*", 5), signAt(")", 6))
}

func TestRemarksThatDoNotEnd(t *testing.T) {
	for _, s := range []string{
		"(*", "(*)", "(* ", "(**", "(* a", "(*(**)", "(*(*)*)", "(* (* *)", "(*(*(**)*)", "(*(*", "(*(", "(*(*)", "(* * )", "(*?\xff", "(* abcdefghijklm 12X",
		"(* (* (* *) *)", strings.Repeat("(*", 200) + strings.Repeat("*)", 199),
	} {
		wantFault(t, s, 2, 0)
		wantFault(t, "\n a"+s, 2, 3)
		wantFault(t, "(**)"+s, 2, 4)
		wantFault(t, "("+s, 2, 1)
	}
	wantFault(t, "a (* b (* c", 2, 2)
	wantFault(t, "(* a *) (* b *) c (* (* d *)", 2, 18)
}

func TestBytesThatAreNothing(t *testing.T) {
	const inside = "ABCDEFGHIJKLMNOPQRSTUVWXYZabcdefghijklmnopqrstuvwxyz0123456789"
	known := inside + strings.Join(allSigns, "") + " \n"
	for c := range 256 {
		one := string([]byte{byte(c)})
		if strings.Contains(known, one) {
			if _, _, _, ok := impl.ReadTokens(one); !ok {
				t.Errorf("ReadTokens(%q) tells false", one)
			}
			continue
		}
		wantFault(t, one, 4, 0)
		wantFault(t, "a"+one, 4, 1)
		wantFault(t, "12"+one+"3", 4, 2)
		wantFault(t, "END "+one+" END", 4, 4)
		wantFault(t, "(* "+one+" *)"+one, 4, 7)
		wantTokens(t, "(*"+one+"*)")
	}
	// Letters, digits and blanks of other scripts are bytes above 127, and end what stands ahead.
	for _, s := range []string{"\u00e4", "\u0141", "\u0130", "\uff21", "\u0661", "\u00a0", "\u2003", "\ufffd", "\U0001d400", "\u0228", "\u012a", "\u0120", "\u010a"} {
		wantFault(t, s, 4, 0)
		wantFault(t, "a"+s+"b", 4, 1)
		wantFault(t, "1"+s, 4, 1)
		wantFault(t, "; "+s+";", 4, 2)
	}
}

func TestMostBytesOfTexts(t *testing.T) {
	blanks := strings.Repeat(" ", impl.MaxText-1)
	wantTokens(t, blanks+"x", nameAt("x", impl.MaxText-1))
	wantTokens(t, blanks+"\n")
	wantFault(t, blanks+"\n ", 1, 0)
	wantFault(t, blanks+" x", 1, 0)
	wantFault(t, blanks+"?", 4, impl.MaxText-1)
	// More bytes come ahead of each other code.
	for _, s := range []string{"(*", "abcdefghijk ", "12X ", "?", strings.Repeat("; ", 301)} {
		wantFault(t, s+blanks+"  ", 1, 0)
	}
	wantFault(t, strings.Repeat("a", 100000), 1, 0)
}

func TestMostTokensOfTexts(t *testing.T) {
	var want []impl.Token
	for i := range impl.MaxTokens {
		want = append(want, signAt(";", i))
	}
	most := strings.Repeat(";", impl.MaxTokens)
	wantTokens(t, most, want...)
	wantTokens(t, most+" (* *)\n", want...)
	wantFault(t, most+";", 5, 0)
	wantFault(t, " \n"+most+" x", 5, 0)
	wantFault(t, strings.Repeat(";", impl.MaxText), 5, 0)
	// It is told behind all else that is not as said.
	wantFault(t, most+";?", 4, impl.MaxTokens+1)
	wantFault(t, most+";abcdefghijk", 3, impl.MaxTokens+1)
	wantFault(t, most+"; 12X", 3, impl.MaxTokens+2)
	wantFault(t, most+";(*", 2, impl.MaxTokens+1)
	wantFault(t, most+"?", 4, impl.MaxTokens)
}

func TestFirstFaultIsTold(t *testing.T) {
	wantFault(t, "? abcdefghijk (*", 4, 0)
	wantFault(t, "abcdefghijk ? (*", 3, 0)
	wantFault(t, "12X ? (*", 3, 0)
	wantFault(t, "(* ? abcdefghijk", 2, 0)
	wantFault(t, "x (* ? *) ? (*", 4, 10)
	wantFault(t, "x\xff12X", 4, 1)
	wantFault(t, "12X\xff", 3, 0)
	wantFault(t, "??", 4, 0)
}

var pieceForm = regexp.MustCompile(`^(?:[A-Za-z][A-Za-z0-9]*|[0-9][A-Za-z0-9]*|[;,.:=*+()-])`)
var numberForm = regexp.MustCompile(`^(?:[0-9]{1,9}|[0-9][0-9A-F]{0,6}H)$`)

// remarkBehind tells the place behind the remark at a place: -1, where it does not end.
func remarkBehind(s string, at int) int {
	at += 2
	for at+1 < len(s) {
		switch s[at : at+2] {
		case "*)":
			return at + 2
		case "(*":
			if at = remarkBehind(s, at); at < 0 {
				return -1
			}
		default:
			at++
		}
	}
	return -1
}

// codeOf tells the code and the place of a short text by forms alone, and where its tokens begin.
func codeOf(s string) (places []int, code, at int) {
	for at < len(s) {
		piece := pieceForm.FindString(s[at:])
		switch {
		case strings.HasPrefix(s[at:], "(*"):
			behind := remarkBehind(s, at)
			if behind < 0 {
				return nil, 2, at
			}
			at = behind
		case s[at] == ' ' || s[at] == '\n':
			at++
		case piece == "":
			return nil, 4, at
		case piece[0] >= '0' && piece[0] <= '9' && !numberForm.MatchString(piece), len(piece) > 10:
			return nil, 3, at
		default:
			places = append(places, at)
			at += len(piece)
		}
	}
	return places, 0, 0
}

// checkText asks that a text's answer is as codeOf tells, and that its tokens stand where they say and
// are read again from their own text.
func checkText(t *testing.T, s string) {
	t.Helper()
	places, code, place := codeOf(s)
	l, gotCode, gotPlace, ok := impl.ReadTokens(s)
	if gotCode != code || gotPlace != place || ok != (code == 0) || len(l) != len(places) {
		t.Fatalf("ReadTokens(%q) = %v, %d, %d, %v, want %v, %d, %d", s, l, gotCode, gotPlace, ok, places, code, place)
	}
	for i, token := range l {
		if piece := pieceForm.FindString(s[places[i]:]); token.At != places[i] || token.Text != piece {
			t.Fatalf("ReadTokens(%q): token %d is %v, want %q at %d", s, i, token, piece, places[i])
		}
	}
	if ok {
		checkReadAgain(t, l)
	}
}

// checkReadAgain asks that tokens are good, and read again from their own text, each at its place.
func checkReadAgain(t *testing.T, l []impl.Token) {
	t.Helper()
	text, ok := impl.TokensText(l)
	if !ok || !impl.GoodTokens(l) {
		t.Fatalf("TokensText(%v) = %q, %v", l, text, ok)
	}
	again, code, place, ok := impl.ReadTokens(text)
	if len(again) != len(l) || code != 0 || place != 0 || !ok {
		t.Fatalf("ReadTokens(%q) = %v, %d, %d, %v, want %v", text, again, code, place, ok, l)
	}
	at := 0
	for i, token := range l {
		token.At = at
		if again[i] != token {
			t.Fatalf("ReadTokens(%q): token %d is %v, want %v", text, i, again[i], token)
		}
		at += len(token.Text) + 1
	}
}

// TestAllSmallTexts asks for all texts of at most six pieces of each of some sorts.
func TestAllSmallTexts(t *testing.T) {
	for _, sort := range [][]string{
		{"(", "*", ")", "a", " "},
		{"1", "F", "H", "x", "("},
		{"abcdef", "0", "H", "\xff", "\n"},
		{"END", "123", "4", "(*", "*)"},
	} {
		level := []string{""}
		for range 6 {
			var next []string
			for _, s := range level {
				checkText(t, s)
				for _, piece := range sort {
					next = append(next, s+piece)
				}
			}
			level = next
		}
		for _, s := range level {
			checkText(t, s)
		}
	}
}

func TestTokensAreReadAgain(t *testing.T) {
	checkReadAgain(t, nil)
	var all []impl.Token
	for _, w := range keptWords {
		all = append(all, wordAt(w, 7))
	}
	for _, s := range allSigns {
		all = append(all, signAt(s, -3))
	}
	for _, w := range numbersTold {
		all = append(all, numberAt(w.text, w.value, math.MaxInt))
	}
	for _, s := range goodNames {
		if s != "MODULE" {
			all = append(all, nameAt(s, math.MinInt))
		}
	}
	checkReadAgain(t, all)
	for _, first := range all {
		checkReadAgain(t, []impl.Token{first})
		for _, second := range all {
			checkReadAgain(t, []impl.Token{first, second})
		}
	}
}

func wantText(t *testing.T, l []impl.Token, want string, good bool) {
	t.Helper()
	if s, ok := impl.TokensText(l); s != want || ok != good {
		t.Errorf("TokensText of %d tokens = %q, %v, want %q, %v", len(l), s, ok, want, good)
	}
}

func TestTextsOfTokens(t *testing.T) {
	wantText(t, nil, "", true)
	wantText(t, []impl.Token{}, "", true)
	wantText(t, []impl.Token{nameAt("x", 0)}, "x", true)
	wantText(t, []impl.Token{signAt("(", 0), signAt("*", 0), signAt(")", 0)}, "( * )", true)
	wantText(t, []impl.Token{wordAt("END", 9), nameAt("x", 2), signAt(".", 2), numberAt("007", 7, -1)}, "END x . 007", true)
}

func TestMostBytesOfTokens(t *testing.T) {
	l := slices.Repeat([]impl.Token{nameAt("abcdefghij", 0)}, 109)
	want := strings.Repeat("abcdefghij ", 109)
	wantText(t, append(slices.Clone(l), nameAt("x", 0)), want+"x", true)
	checkReadAgain(t, append(slices.Clone(l), nameAt("x", 0)))
	longer := append(slices.Clone(l), nameAt("xy", 0))
	wantText(t, longer, "", false)
	if !impl.GoodTokens(longer) {
		t.Error("good tokens of a text that is too long")
	}
	// A text without blanks may have tokens that are too long with them.
	tokens, _, _, ok := impl.ReadTokens(strings.Repeat("abc;", impl.MaxTokens/2))
	if !ok || len(tokens) != impl.MaxTokens {
		t.Fatal("tokens", len(tokens), ok)
	}
	checkReadAgain(t, tokens)
	tokens, _, _, ok = impl.ReadTokens(strings.Repeat("abcdefg;", impl.MaxTokens/2))
	if !ok || len(tokens) != impl.MaxTokens || !impl.GoodTokens(tokens) {
		t.Fatal("tokens", len(tokens), ok)
	}
	wantText(t, tokens, "", false)
}

func TestMostTokensThatAreGood(t *testing.T) {
	l := slices.Repeat([]impl.Token{signAt("+", 0)}, impl.MaxTokens)
	want := strings.TrimSuffix(strings.Repeat("+ ", impl.MaxTokens), " ")
	if !impl.GoodTokens(l) {
		t.Error("most tokens are not good")
	}
	wantText(t, l, want, true)
	checkReadAgain(t, l)
	l = append(l, signAt("+", 0))
	if impl.GoodTokens(l) {
		t.Error("one more is good")
	}
	wantText(t, l, "", false)
}

// badTokens are such as ReadTokens tells of no text.
func badTokens() []impl.Token {
	l := []impl.Token{{}, {Kind: impl.TkName}, {Kind: impl.TkWord}, {Kind: impl.TkNumber}, {Kind: impl.TkSign}, {Value: 1}, {At: 1}}
	good := []impl.Token{nameAt("x", 0), nameAt("FFH", 0), wordAt("END", 0), numberAt("0FFH", 255, 0), numberAt("0", 0, 0), numberAt("12", 12, 0), signAt("*", 0)}
	for _, token := range good {
		for _, kind := range []int{0, 1, 2, 3, 4, 5, -1, 256 + token.Kind, math.MaxInt, math.MinInt} {
			if kind != token.Kind {
				l = append(l, impl.Token{Kind: kind, Text: token.Text, Value: token.Value})
			}
		}
		for _, value := range []int{-1, 0, 1, 13, 254, 256, math.MaxInt, math.MinInt} {
			if value != token.Value {
				l = append(l, impl.Token{Kind: token.Kind, Text: token.Text, Value: value})
			}
		}
		for _, text := range []string{
			"", " ", " " + token.Text, token.Text + " ", token.Text + "\n", "(**)" + token.Text, token.Text + "(**)", token.Text + ";",
			token.Text + "?", token.Text + "\x00", token.Text + "\xff", token.Text + "abcdefghijk", "(*" + token.Text, "**", ";,", ",.", "()", "(*", "*)",
			strings.Repeat(token.Text, 1300),
		} {
			l = append(l, impl.Token{Kind: token.Kind, Text: text, Value: token.Value})
		}
	}
	for _, s := range runsThatAreNone {
		l = append(l, numberAt(s, 0, 0), nameAt(s, 0))
	}
	for _, s := range badNames {
		l = append(l, nameAt(s, 0), wordAt(s, 0), signAt(s, 0))
	}
	return l
}

func TestTokensThatAreNotGood(t *testing.T) {
	x := nameAt("x", 0)
	for _, bad := range badTokens() {
		for _, l := range [][]impl.Token{{bad}, {x, bad}, {bad, x}, {x, bad, x}} {
			if impl.GoodTokens(l) {
				t.Errorf("GoodTokens(%v) tells true", l)
			}
			wantText(t, l, "", false)
		}
	}
}

func TestPlacesOfTokensAreNotAsked(t *testing.T) {
	for _, at := range []int{0, 1, -1, impl.MaxText, math.MaxInt, math.MinInt} {
		l := []impl.Token{nameAt("x", at), numberAt("0AH", 10, at), signAt(";", 5)}
		if !impl.GoodTokens(l) {
			t.Errorf("GoodTokens(%v) tells false", l)
		}
		wantText(t, l, "x 0AH ;", true)
	}
}

func TestTokensAreNotWrittenInto(t *testing.T) {
	room := []impl.Token{signAt("?", 1), nameAt("x", 2), numberAt("7", 7, 3), signAt("(", 4), signAt("?", 5), nameAt("y", 6)}
	before := slices.Clone(room)
	l := room[1:4]
	wantText(t, l, "x 7 (", true)
	if !impl.GoodTokens(l) || !slices.Equal(room, before) {
		t.Error("written into", room)
	}
	for _, bad := range badTokens() {
		l := []impl.Token{nameAt("x", 4), bad, nameAt("y", 5)}
		kept := slices.Clone(l)
		impl.GoodTokens(l)
		impl.TokensText(l)
		if !slices.Equal(l, kept) {
			t.Fatal("written into", l)
		}
	}
	many := slices.Repeat([]impl.Token{nameAt("abcdefghij", 77)}, 301)
	kept := slices.Clone(many)
	impl.TokensText(many)
	impl.TokensText(many[:300])
	impl.GoodTokens(many)
	if !slices.Equal(many, kept) {
		t.Error("written into where there are too many")
	}
}

func overlap(a, b string) bool {
	if a == "" || b == "" {
		return false
	}
	x, y := uintptr(unsafe.Pointer(unsafe.StringData(a))), uintptr(unsafe.Pointer(unsafe.StringData(b)))
	return x < y+uintptr(len(b)) && y < x+uintptr(len(a))
}

func TestAnswersAreNewMemory(t *testing.T) {
	s := strings.Clone("MODULE name ; 0FFH = 123 (* remark *) END")
	first, _, _, ok := impl.ReadTokens(s)
	second, _, _, _ := impl.ReadTokens(s)
	if !ok || len(first) != 7 || !slices.Equal(first, second) {
		t.Fatal("tokens", first, second)
	}
	for _, token := range first {
		if overlap(token.Text, s) {
			t.Errorf("%q is a part of the text", token.Text)
		}
	}
	clear(first[:cap(first)])
	if second[1] != nameAt("name", 7) {
		t.Error("two answers share memory", second)
	}
	one := []impl.Token{nameAt(strings.Clone("longname"), 0)}
	text, ok := impl.TokensText(one)
	if text != "longname" || !ok || overlap(text, one[0].Text) {
		t.Error("the text of one token is that token's")
	}
}

func wantLine(t *testing.T, s string, at, line, ahead int, good bool) {
	t.Helper()
	if gotLine, gotAhead, ok := impl.LineOf(s, at); gotLine != line || gotAhead != ahead || ok != good {
		t.Errorf("LineOf(%q, %d) = %d, %d, %v, want %d, %d, %v", s, at, gotLine, gotAhead, ok, line, ahead, good)
	}
}

func TestLinesOfPlaces(t *testing.T) {
	wantLine(t, "", 0, 1, 0, true)
	wantLine(t, "a", 0, 1, 0, true)
	wantLine(t, "a", 1, 1, 1, true)
	wantLine(t, "\n", 0, 1, 0, true)
	wantLine(t, "\n", 1, 2, 0, true)
	wantLine(t, "a\nbc", 1, 1, 1, true)
	wantLine(t, "a\nbc", 2, 2, 0, true)
	wantLine(t, "a\nbc", 3, 2, 1, true)
	wantLine(t, "a\nbc", 4, 2, 2, true)
	wantLine(t, "a\nbc\n", 4, 2, 2, true)
	wantLine(t, "a\nbc\n", 5, 3, 0, true)
	wantLine(t, "\n\n\n", 2, 3, 0, true)
	wantLine(t, "\r\n?\xff\xc3\xa4", 6, 2, 4, true)
	wantLine(t, "(*\n*)\n", 4, 2, 1, true)
}

func TestLinesOfAllPlaces(t *testing.T) {
	for _, s := range []string{"", "abc", "\n\nab\n\xffc\n", "a\r\nb\x00\n", strings.Repeat("ab\n\n", 300), strings.Repeat("\n", 1200), strings.Repeat("x", 1200)} {
		line, ahead := 1, 0
		for at := range len(s) + 1 {
			wantLine(t, s, at, line, ahead, true)
			ahead++
			if at < len(s) && s[at] == '\n' {
				line, ahead = line+1, 0
			}
		}
		for _, at := range placesOutside(len(s)) {
			wantLine(t, s, at, 0, 0, false)
		}
	}
	long := strings.Repeat("ab\n", 400) + "a"
	for _, at := range []int{0, 1, 3, 1200, 1201, 1202, -1} {
		wantLine(t, long, at, 0, 0, false)
	}
}

// TestScanAnswersAnything asks for texts of all sorts of bytes: a panic fails, and what is told true
// is read again.
func TestScanAnswersAnything(t *testing.T) {
	const some = "(**) \n;aZ09FHEND?\x00\xff\xc3\xa4"
	seed := uint64(1)
	for range 20000 {
		seed = nextOf(seed)
		s := make([]byte, seed%40)
		for i := range s {
			seed = nextOf(seed)
			s[i] = some[(seed>>33)%uint64(len(some))]
		}
		checkText(t, string(s))
		wantNumber(t, string(s)+"?", 0, false)
		if impl.IsWord(string(s)) != slices.Contains(keptWords, string(s)) {
			t.Errorf("IsWord(%q)", s)
		}
	}
}

// nextOf tells the next number of a fixed row without a plain order.
func nextOf(n uint64) uint64 {
	n ^= n << 13
	n ^= n >> 7
	return n ^ n<<17
}

func TestScanConstantsAreAsTold(t *testing.T) {
	if impl.MaxText != 1200 || impl.MaxTokens != 300 {
		t.Error(impl.MaxText, impl.MaxTokens)
	}
	if impl.TkName != 1 || impl.TkWord != 2 || impl.TkNumber != 3 || impl.TkSign != 4 {
		t.Error(impl.TkName, impl.TkWord, impl.TkNumber, impl.TkSign)
	}
}
