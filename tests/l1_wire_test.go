package tests

import (
	"math"
	"math/big"
	"slices"
	"strings"
	"testing"

	"loop.example/g00837/impl"
)

// farNumbers are no numbers of chapter 1, and no places of any text.
var farNumbers = []int{
	impl.MaxWhole + 1, -impl.MaxWhole - 1, 2*impl.MaxWhole + 1, math.MaxInt32 + 1,
	math.MaxInt, math.MaxInt - 1, math.MinInt, math.MinInt + 1,
}

// someNumbers are those about which the signs, the bytes' lengths and the limits turn.
func someNumbers() []int {
	l := []int{impl.MaxWhole, impl.MaxWhole - 1, -impl.MaxWhole, -impl.MaxWhole + 1}
	for n := -300; n <= 300; n++ {
		l = append(l, n)
	}
	for shift := 6; shift < 30; shift++ {
		for by := -2; by <= 2; by++ {
			if n := 1<<shift + by; n <= impl.MaxWhole {
				l = append(l, n, -n)
			}
		}
	}
	return l
}

func wantFold(t *testing.T, n, want int, good bool) {
	t.Helper()
	if got, ok := impl.FoldSign(n); got != want || ok != good {
		t.Errorf("FoldSign(%d) = %d, %v, want %d, %v", n, got, ok, want, good)
	}
}

func wantOpen(t *testing.T, n, want int, good bool) {
	t.Helper()
	if got, ok := impl.OpenSign(n); got != want || ok != good {
		t.Errorf("OpenSign(%d) = %d, %v, want %d, %v", n, got, ok, want, good)
	}
}

func TestSignsAreFoldedAndOpened(t *testing.T) {
	pairs := [][2]int{
		{0, 0}, {-1, 1}, {1, 2}, {-2, 3}, {2, 4}, {-3, 5}, {63, 126}, {-64, 127}, {64, 128}, {-65, 129},
		{impl.MaxWhole, 2 * impl.MaxWhole}, {-impl.MaxWhole, 2*impl.MaxWhole - 1},
	}
	for _, p := range pairs {
		wantFold(t, p[0], p[1], true)
		wantOpen(t, p[1], p[0], true)
	}
}

func TestSignsUndoOneAnother(t *testing.T) {
	for _, n := range someNumbers() {
		folded, ok := impl.FoldSign(n)
		if !ok || folded < 0 || folded > 2*impl.MaxWhole || (folded%2 == 1) != (n < 0) {
			t.Fatalf("FoldSign(%d) = %d, %v", n, folded, ok)
		}
		wantOpen(t, folded, n, true)
	}
	for folded := range 5000 {
		for _, f := range []int{folded, 2*impl.MaxWhole - folded} {
			n, ok := impl.OpenSign(f)
			if !ok {
				t.Fatalf("OpenSign(%d) tells false", f)
			}
			wantFold(t, n, f, true)
		}
	}
}

func TestSignsBeyondTheLimits(t *testing.T) {
	for _, n := range farNumbers {
		wantFold(t, n, 0, false)
	}
	for _, n := range []int{-1, -2, -impl.MaxWhole, 2*impl.MaxWhole + 1, 2*impl.MaxWhole + 2, math.MaxInt, math.MinInt} {
		wantOpen(t, n, 0, false)
	}
}

// wireNumbers tells numbers and their bytes, written out by hand.
var wireNumbers = []struct {
	n int
	b string
}{
	{0, "\x00"}, {-1, "\x01"}, {1, "\x02"}, {63, "\x7e"}, {-64, "\x7f"},
	{64, "\x80\x01"}, {-65, "\x81\x01"}, {8191, "\xfe\x7f"}, {-8192, "\xff\x7f"},
	{8192, "\x80\x80\x01"}, {-8193, "\x81\x80\x01"}, {-1048576, "\xff\xff\x7f"}, {1048576, "\x80\x80\x80\x01"},
	{-134217728, "\xff\xff\xff\x7f"}, {134217728, "\x80\x80\x80\x80\x01"},
	{impl.MaxWhole, "\x80\xa8\xd6\xb9\x07"}, {-impl.MaxWhole, "\xff\xa7\xd6\xb9\x07"},
}

func wantNum(t *testing.T, b string, at, n, behind int, good bool) {
	t.Helper()
	if got, next, ok := impl.ReadNum(b, at); got != n || next != behind || ok != good {
		t.Errorf("ReadNum(%q, %d) = %d, %d, %v, want %d, %d, %v", b, at, got, next, ok, n, behind, good)
	}
}

func TestNumbersAsBytes(t *testing.T) {
	for _, w := range wireNumbers {
		if b, ok := impl.NumBytes(w.n); b != w.b || !ok {
			t.Errorf("NumBytes(%d) = %q, %v, want %q", w.n, b, ok, w.b)
		}
		wantNum(t, w.b, 0, w.n, len(w.b), true)
		wantNum(t, "\xff\x80a"+w.b+"\xff", 3, w.n, 3+len(w.b), true)
	}
	for _, n := range farNumbers {
		if b, ok := impl.NumBytes(n); b != "" || ok {
			t.Errorf("NumBytes(%d) = %q, %v", n, b, ok)
		}
	}
}

func TestNumbersAreReadBack(t *testing.T) {
	var all strings.Builder
	for _, n := range someNumbers() {
		b, ok := impl.NumBytes(n)
		if !ok {
			t.Fatalf("NumBytes(%d) tells false", n)
		}
		for _, ahead := range []string{"", "\x00", "\x80", "ab\xff"} {
			for _, behind := range []string{"", "\x00", "\x80", "\xffz"} {
				wantNum(t, ahead+b+behind, len(ahead), n, len(ahead)+len(b), true)
			}
		}
		for long := range b {
			wantNum(t, b[:long], 0, 0, 0, false)
		}
		if all.Len()+len(b) <= impl.MaxBytes {
			all.WriteString(b)
		}
	}
	at := 0
	for _, n := range someNumbers() {
		if at == all.Len() {
			break
		}
		got, next, ok := impl.ReadNum(all.String(), at)
		if got != n || next <= at || !ok {
			t.Fatalf("at %d: %d, %d, %v, want %d", at, got, next, ok, n)
		}
		at = next
	}
}

// TestNumbersOfAllShortBytes reads all texts of two bytes.
func TestNumbersOfAllShortBytes(t *testing.T) {
	told := 0
	for first := range 256 {
		for second := range 256 {
			b := string([]byte{byte(first), byte(second)})
			n, next, ok := impl.ReadNum(b, 0)
			if good := first < 128 || second >= 1 && second < 128; good != ok {
				t.Fatalf("ReadNum(%q, 0) tells %v", b, ok)
			}
			if !ok {
				wantNum(t, b, 0, 0, 0, false)
				continue
			}
			told++
			if back, good := impl.NumBytes(n); !good || back != b[:next] {
				t.Fatalf("ReadNum(%q, 0) = %d, whose bytes are %q", b, n, back)
			}
		}
	}
	if told != 128*256+128*127 {
		t.Error("told", told)
	}
}

func TestNumbersThatAreNone(t *testing.T) {
	for _, b := range []string{
		"", "\x80", "\xff", "\x80\x80", "\xff\xff\xff\xff", "\x80\x80\x80\x80\x80",
		"\x80\x00", "\x81\x00", "\xff\x00", "\x80\x80\x00", "\x81\x80\x00", "\xff\xff\xff\x00",
		"\x80\xa8\xd6\xb9\x00", "\x80\x80\x80\x80\x00",
		"\x81\xa8\xd6\xb9\x07", "\x82\xa8\xd6\xb9\x07", "\x80\xa9\xd6\xb9\x07", "\x80\xa8\xd6\xb9\x08",
		"\xff\xff\xff\xff\x07", "\xff\xff\xff\xff\x7f", "\x80\x80\x80\x80\x10", "\x80\x80\x80\x80\x20",
		"\x80\xa8\xd6\xb9\x87\x00", "\x80\x80\x80\x80\x80\x00", "\x80\x80\x80\x80\x80\x01", "\x81\x80\x80\x80\x80\x00",
		"\x80\x80\x80\x80\x80\x80\x80\x80\x80\x01", "\xff\xff\xff\xff\xff\xff\xff\xff\xff\x01",
		"\x80\x80\x80\x80\x80\x80\x80\x80\x80\x80\x01", strings.Repeat("\x80", 40) + "\x01", strings.Repeat("\xff", impl.MaxBytes),
	} {
		wantNum(t, b, 0, 0, 0, false)
		if len(b) < impl.MaxBytes {
			wantNum(t, "\x05"+b, 1, 0, 0, false)
		}
	}
}

// placesOutside are such as no text of some length has.
func placesOutside(long int) []int {
	return append([]int{-1, -2, -long - 1, long + 1, long + 2, long + 100}, farNumbers...)
}

func TestPlacesOfNumbers(t *testing.T) {
	b := "\x04\x81\x01\x06"
	wantNum(t, b, 0, 2, 1, true)
	wantNum(t, b, 1, -65, 3, true)
	wantNum(t, b, 2, -1, 3, true)
	wantNum(t, b, 3, 3, 4, true)
	wantNum(t, b, 4, 0, 0, false)
	wantNum(t, "", 0, 0, 0, false)
	for _, at := range placesOutside(len(b)) {
		wantNum(t, b, at, 0, 0, false)
		wantNum(t, "", at, 0, 0, false)
	}
}

func TestMostBytesOfNumbers(t *testing.T) {
	b := strings.Repeat("\x02", impl.MaxBytes-2) + "\x81\x01"
	wantNum(t, b, 0, 1, 1, true)
	wantNum(t, b, impl.MaxBytes-2, -65, impl.MaxBytes, true)
	wantNum(t, b, impl.MaxBytes, 0, 0, false)
	for _, at := range []int{0, 1, impl.MaxBytes - 1, impl.MaxBytes, impl.MaxBytes + 1} {
		wantNum(t, b+"\x02", at, 0, 0, false)
	}
}

var goodNames = []string{
	"a", "z", "A", "Z", "m", "Q", "a0", "a9", "Z5z", "Ab1", "aA", "zZ", "INT", "MODULE", "abcdefghij", "A123456789", "zzzzzzzzzz",
}

var badNames = []string{
	"", "0", "9", "1a", "0abc", "a_", "_a", "a b", " a", "a ", "a.b", "a-", "a\x00", "\x00", "a\n", "@a", "[a", "`a", "{a", "/a", ":a",
	"a@", "a[", "a`", "a{", "a/", "a:", "\xc3\xa4", "a\xc3\xa4", "a\x80", "a\xff", "\xff", "\xe1", "abcdefghijk", "A1234567890",
	"\uff21", "a\u0661", strings.Repeat("a", 300), strings.Repeat("a", 256+3),
}

func wantName(t *testing.T, b string, at int, s string, behind int, good bool) {
	t.Helper()
	if got, next, ok := impl.ReadName(b, at); got != s || next != behind || ok != good {
		t.Errorf("ReadName(%q, %d) = %q, %d, %v, want %q, %d, %v", b, at, got, next, ok, s, behind, good)
	}
}

func TestNamesAndOthers(t *testing.T) {
	for _, s := range goodNames {
		if !impl.GoodName(s) {
			t.Errorf("GoodName(%q) tells false", s)
		}
		want := string([]byte{byte(len(s))}) + s
		if b, ok := impl.NameBytes(s); b != want || !ok {
			t.Errorf("NameBytes(%q) = %q, %v", s, b, ok)
		}
	}
	for _, s := range badNames {
		if impl.GoodName(s) {
			t.Errorf("GoodName(%q) tells true", s)
		}
		if b, ok := impl.NameBytes(s); b != "" || ok {
			t.Errorf("NameBytes(%q) = %q, %v", s, b, ok)
		}
	}
}

// TestBytesOfNames asks for each byte alone, behind a letter, and as the last one of the longest name.
func TestBytesOfNames(t *testing.T) {
	const letters = "ABCDEFGHIJKLMNOPQRSTUVWXYZabcdefghijklmnopqrstuvwxyz"
	for c := range 256 {
		one := string([]byte{byte(c)})
		letter := strings.Contains(letters, one)
		inside := letter || strings.Contains("0123456789", one)
		if impl.GoodName(one) != letter || impl.GoodName(one+"a") != letter {
			t.Errorf("%q at first: %v", one, !letter)
		}
		if impl.GoodName("a"+one+"a") != inside || impl.GoodName("abcdefghi"+one) != inside {
			t.Errorf("%q further: %v", one, !inside)
		}
		if _, _, ok := impl.ReadName("\x02a"+one, 0); ok != inside {
			t.Errorf("%q read: %v", one, ok)
		}
	}
}

func TestNamesAreReadBack(t *testing.T) {
	for _, s := range goodNames {
		b, _ := impl.NameBytes(s)
		for _, ahead := range []string{"", "\x00", "\x01", "ab\xff"} {
			for _, behind := range []string{"", "\x00", "a", "\xffz"} {
				wantName(t, ahead+b+behind, len(ahead), s, len(ahead)+len(b), true)
			}
		}
		for long := range b {
			wantName(t, b[:long], 0, "", 0, false)
		}
	}
	for _, s := range badNames {
		if len(s) < 256 { // a length that one byte can tell
			wantName(t, string([]byte{byte(len(s))})+s, 0, "", 0, false)
		}
	}
}

func TestLengthsOfNames(t *testing.T) {
	text := strings.Repeat("a", 300)
	for long := range 256 {
		b := string([]byte{byte(long)}) + text
		if long < 1 || long > impl.MaxName {
			wantName(t, b, 0, "", 0, false)
			continue
		}
		wantName(t, b, 0, text[:long], 1+long, true)
		wantName(t, b[:1+long], 0, text[:long], 1+long, true)
		wantName(t, b[:long], 0, "", 0, false)
	}
	wantName(t, "\x00", 0, "", 0, false)
	wantName(t, "\x00a", 0, "", 0, false)
	wantName(t, "\x81\x00a", 0, "", 0, false)
}

func TestPlacesOfNames(t *testing.T) {
	b := "x\x01a\x02B7"
	wantName(t, b, 1, "a", 3, true)
	wantName(t, b, 3, "B7", 6, true)
	for _, at := range append(placesOutside(len(b)), 0, 2, 4, 5, 6) {
		wantName(t, b, at, "", 0, false)
	}
	wantName(t, "", 0, "", 0, false)
	for _, at := range placesOutside(0) {
		wantName(t, "", at, "", 0, false)
	}
}

func TestMostBytesOfNames(t *testing.T) {
	b := strings.Repeat("\x01a", impl.MaxBytes/2-1) + "\x01b"
	wantName(t, b, 0, "a", 2, true)
	wantName(t, b, impl.MaxBytes-2, "b", impl.MaxBytes, true)
	wantName(t, b, impl.MaxBytes, "", 0, false)
	for _, at := range []int{0, impl.MaxBytes - 2, impl.MaxBytes, impl.MaxBytes + 1} {
		wantName(t, b+"a", at, "", 0, false)
	}
}

// mixOf tells Mix as the document does, in whole numbers without an end.
func mixOf(a, b int) int {
	bits := new(big.Int).Lsh(big.NewInt(1), 64)
	sum := new(big.Int).Mul(big.NewInt(int64(a)), big.NewInt(31))
	sum.Add(sum, new(big.Int).Mul(big.NewInt(int64(b)), big.NewInt(131)))
	sum.Add(sum, big.NewInt(17)).Mod(sum, bits)
	sum.Xor(sum, new(big.Int).Rsh(sum, 29))
	sum.Mul(sum, big.NewInt(1000003)).Mod(sum, bits)
	sum.Xor(sum, new(big.Int).Rsh(sum, 32))
	return int(sum.Mod(sum, new(big.Int).Lsh(big.NewInt(1), 62)).Int64())
}

func TestMixTold(t *testing.T) {
	for _, w := range [][3]int{
		{0, 0, 17000051}, {1, 2, 310000930}, {2, 1, 210000630},
		{-1, 0, 4577326181262798991}, {0, -1, 4577326181161489019},
		{math.MaxInt, math.MaxInt, 4577326181125236824}, {math.MinInt, math.MinInt, 17000051},
		{math.MaxInt, math.MinInt, 4577326181262798991}, {math.MinInt, math.MaxInt, 4577326181161489019},
		{impl.MaxWhole, -impl.MaxWhole, 4539887113821149626},
	} {
		if got := impl.Mix(w[0], w[1]); got != w[2] {
			t.Errorf("Mix(%d, %d) = %d, want %d", w[0], w[1], got, w[2])
		}
	}
}

func TestMixOfAnyTwo(t *testing.T) {
	l := append([]int{1 << 29, 1 << 32, 1 << 61, 1 << 62, -1 << 62, 1<<62 - 1}, farNumbers...)
	for n := -20; n <= 20; n++ {
		l = append(l, n, n*impl.MaxWhole, n*(math.MaxInt/20))
	}
	for _, a := range l {
		for _, b := range l {
			got := impl.Mix(a, b)
			if got != mixOf(a, b) || got < 0 || got >= 1<<62 {
				t.Fatalf("Mix(%d, %d) = %d, want %d", a, b, got, mixOf(a, b))
			}
		}
	}
}

func wantMixAll(t *testing.T, l []int, want int, good bool) {
	t.Helper()
	if got, ok := impl.MixAll(l); got != want || ok != good {
		t.Errorf("MixAll of %d numbers = %d, %v, want %d, %v", len(l), got, ok, want, good)
	}
}

func TestMixAllTold(t *testing.T) {
	wantMixAll(t, nil, 0, true)
	wantMixAll(t, []int{}, 0, true)
	wantMixAll(t, []int{0}, 48000144, true)
	wantMixAll(t, []int{4, 5}, 18693112791838446, true)
	wantMixAll(t, []int{math.MinInt, math.MaxInt, -1}, 2489844827536545412, true)
}

func TestMostNumbersOfMixAll(t *testing.T) {
	l := make([]int, 201)
	for i := range l {
		l[i] = i
	}
	wantMixAll(t, l[:200], 2726381040423494709, true)
	wantMixAll(t, l, 0, false)
	wantMixAll(t, make([]int, 5000), 0, false)
	for long := range 201 {
		want := long
		for _, n := range l[:long] {
			want = mixOf(want, n)
		}
		wantMixAll(t, l[:long], want, true)
	}
}

func TestMixAllWritesNowhere(t *testing.T) {
	room := []int{9, -4, math.MaxInt, math.MinInt, 0, 77, 78, 79}
	before := slices.Clone(room)
	first, ok := impl.MixAll(room[1:4])
	if !slices.Equal(room, before) || !ok {
		t.Error("written into", room)
	}
	// What lies behind the length is not read.
	room[4], room[5] = -1, -2
	if again, _ := impl.MixAll(room[1:4]); again != first {
		t.Error("read behind the length", again, first)
	}
	many := make([]int, 201)
	many[200] = 3
	kept := slices.Clone(many)
	if _, ok := impl.MixAll(many); ok || !slices.Equal(many, kept) {
		t.Error("written into where there are too many")
	}
}

// TestWireAnswersAnything asks at all small places of texts of all sorts: a panic fails, and a false
// comes with zeros alone.
func TestWireAnswersAnything(t *testing.T) {
	texts := append(slices.Concat(goodNames, badNames), strings.Repeat("\x0a", 40), strings.Repeat("\xff", 3001), strings.Repeat("\x0bA", 1500))
	for _, w := range wireNumbers {
		texts = append(texts, w.b, w.b+"\x03abc", "\x02"+w.b)
	}
	for _, b := range texts {
		for _, at := range slices.Concat(placesOutside(len(b)), []int{0, 1, 2, 3, 4, 5, len(b) - 1, len(b)}) {
			if n, next, ok := impl.ReadNum(b, at); ok {
				if back, good := impl.NumBytes(n); !good || b[at:next] != back {
					t.Errorf("ReadNum(%q, %d) = %d", b, at, n)
				}
			} else if n != 0 || next != 0 {
				t.Errorf("ReadNum(%q, %d) = %d, %d and false", b, at, n, next)
			}
			if s, next, ok := impl.ReadName(b, at); ok {
				if back, good := impl.NameBytes(s); !good || b[at:next] != back {
					t.Errorf("ReadName(%q, %d) = %q", b, at, s)
				}
			} else if s != "" || next != 0 {
				t.Errorf("ReadName(%q, %d) = %q, %d and false", b, at, s, next)
			}
		}
	}
}

func TestLimitsAreAsTold(t *testing.T) {
	if impl.MaxBytes != 3000 || impl.MaxName != 10 || impl.MaxWhole != 1000000000 {
		t.Error(impl.MaxBytes, impl.MaxName, impl.MaxWhole)
	}
}
