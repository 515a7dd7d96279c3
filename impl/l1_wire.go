package impl

const MaxBytes = 3000
const MaxName = 10
const MaxWhole = 1000000000

// 2 MaxWhole has 31 bits, so that five bytes of seven bits hold every folded number.
const numRoom = 5
const moreBit = 0x80
const lowSeven = 0x7f

const maxMixed = 200
const mixMask = 1<<62 - 1

// numBox holds the bytes of one number, zeros behind them. The last byte of a number is the only one
// without moreBit, so that two boxes are the same just where their numbers have the same bytes.
type numBox [numRoom]byte

// NumBytes tells a number in -MaxWhole..MaxWhole as few bytes as can be.
func NumBytes(n int) (string, bool) {
	folded, ok := FoldSign(n)
	if !ok {
		return "", false
	}
	var box numBox
	long := fillBox(&box, folded)
	return string(box[:long]), true
}

// ReadNum reads the number whose NumBytes stand at a place, and tells the place behind it.
func ReadNum(b string, at int) (int, int, bool) {
	if !isPlace(b, at) {
		return 0, 0, false
	}
	var found numBox
	long := cutBox(&found, b[at:])
	if long == 0 {
		return 0, 0, false
	}
	folded := foldedIn(found)
	n, ok := OpenSign(folded)
	if !ok {
		return 0, 0, false
	}
	// A number may be told with more bytes than it needs: only its shortest bytes are read.
	var shortest numBox
	fillBox(&shortest, folded)
	if found != shortest {
		return 0, 0, false
	}
	return n, at + long, true
}

// NameBytes tells a name with its length ahead.
func NameBytes(s string) (string, bool) {
	if !GoodName(s) {
		return "", false
	}
	return string([]byte{byte(len(s))}) + s, true
}

// ReadName reads the name whose NameBytes stand at a place, and tells the place behind it.
func ReadName(b string, at int) (string, int, bool) {
	if !isPlace(b, at) || at == len(b) {
		return "", 0, false
	}
	from := at + 1
	behind := from + int(b[at])
	if behind > len(b) || !GoodName(b[from:behind]) {
		return "", 0, false
	}
	return string([]byte(b[from:behind])), behind, true
}

// GoodName tells whether a text is a name.
func GoodName(s string) bool {
	if len(s) < 1 || len(s) > MaxName || !isLetter(s[0]) {
		return false
	}
	for i := 1; i < len(s); i++ {
		if !isLetter(s[i]) && !isDigit(s[i]) {
			return false
		}
	}
	return true
}

// FoldSign tells 0, -1, 1, -2 and so on as 0, 1, 2, 3 and so on.
func FoldSign(n int) (int, bool) {
	if n < -MaxWhole || n > MaxWhole {
		return 0, false
	}
	// n>>63 is all ones below 0: it turns twice n into twice what it is below 0, less 1.
	return int(uint64(n)<<1 ^ uint64(n>>63)), true
}

// OpenSign tells the number of which another one is FoldSign.
func OpenSign(n int) (int, bool) {
	if n < 0 || n > 2*MaxWhole {
		return 0, false
	}
	return n>>1 ^ -(n & 1), true
}

// Mix tells one number of two, in 62 bits.
func Mix(a int, b int) int {
	sum := uint64(a)*31 + uint64(b)*131 + 17
	sum = (sum ^ sum>>29) * 1000003
	sum ^= sum >> 32
	return int(sum & mixMask)
}

// MixAll tells one number of at most 200, begun with how many they are.
func MixAll(l []int) (int, bool) {
	if len(l) > maxMixed {
		return 0, false
	}
	sum := len(l)
	for _, n := range l {
		sum = Mix(sum, n)
	}
	return sum, true
}

// isPlace tells whether there are not too many bytes, and a place in them or just behind them.
func isPlace(b string, at int) bool {
	return len(b) <= MaxBytes && at >= 0 && at <= len(b)
}

// fillBox puts the shortest bytes of a folded number into an empty box, and tells how many they are.
func fillBox(box *numBox, folded int) int {
	at := 0
	for folded > lowSeven {
		box[at] = byte(folded&lowSeven | moreBit)
		folded >>= 7
		at++
	}
	box[at] = byte(folded)
	return at + 1
}

// cutBox puts the bytes up to the first one without moreBit into an empty box, and tells how many
// they are: 0, where there is no such byte or it comes too late.
func cutBox(box *numBox, b string) int {
	for i := 0; i < len(b) && i < numRoom; i++ {
		box[i] = b[i]
		if b[i] < moreBit {
			return i + 1
		}
	}
	return 0
}

// foldedIn tells the folded number of the bytes in a box; the zeros behind them add nothing.
func foldedIn(box numBox) int {
	folded := 0
	for i, c := range box {
		folded |= int(c&lowSeven) << (7 * i)
	}
	return folded
}

func isLetter(c byte) bool {
	return c >= 'A' && c <= 'Z' || c >= 'a' && c <= 'z'
}

func isDigit(c byte) bool {
	return c >= '0' && c <= '9'
}
