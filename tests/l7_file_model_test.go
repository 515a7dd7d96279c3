package tests

import (
	"encoding/binary"
	"regexp"
	"slices"
	"strconv"
	"strings"
	"testing"

	"loop.example/g00837/impl"
)

// filePart is one part of a file: the form of what may stand there, and the bytes that do.
type filePart struct {
	form, bytes string
}

// fileForms are what things in a file are made of: a number ahead of a thing is how many there may be
// of it, each behind the number of how many there are; maybe is a name, or none; a-b is a byte from a to b.
var fileForms = map[string][]string{
	"file":   {"name", "21 type", "16 object"},
	"type":   {"4-6", "number", "number", "maybe", "maybe", "6 field"},
	"field":  {"0-2", "maybe", "number"},
	"object": {"1-4", "0-2", "name", "number", "number", "4 param"},
	"param":  {"name", "0-1", "number"},
}

// numberByHand tells the bytes of a number by dividing it.
func numberByHand(n int) string {
	n *= 2
	if n < 0 {
		n = -n - 1
	}
	var bytes []byte
	for ; n >= 128; n /= 128 {
		bytes = append(bytes, byte(128+n%128))
	}
	return string(append(bytes, byte(n)))
}

func textByHand(s string) string {
	return string([]byte{byte(len(s))}) + s
}

func typeParts(t impl.Type) []filePart {
	l := []filePart{
		{"4-6", string([]byte{byte(t.Kind)})}, {"number", numberByHand(t.Long)}, {"number", numberByHand(t.Base)},
		{"maybe", textByHand(t.Owner)}, {"maybe", textByHand(t.Name)}, {"6 field", numberByHand(len(t.Fields))},
	}
	for _, f := range t.Fields {
		l = append(l, filePart{"0-2", string([]byte{byte(f.Mark)})}, filePart{"maybe", textByHand(f.Name)}, filePart{"number", numberByHand(f.Type)})
	}
	return l
}

func objectParts(o impl.Object) []filePart {
	l := []filePart{
		{"1-4", string([]byte{byte(o.Kind)})}, {"0-2", string([]byte{byte(o.Mark)})}, {"name", textByHand(o.Name)},
		{"number", numberByHand(o.Type)}, {"number", numberByHand(o.Value)}, {"4 param", numberByHand(len(o.Params))},
	}
	for _, p := range o.Params {
		by := "\x00"
		if p.ByVar {
			by = "\x01"
		}
		l = append(l, filePart{"name", textByHand(p.Name)}, filePart{"0-1", by}, filePart{"number", numberByHand(p.Type)})
	}
	return l
}

// fileParts tells what stands in a file between its first three bytes and its last two, good or not.
func fileParts(s impl.Scope) []filePart {
	l := []filePart{{"name", textByHand(s.Name)}, {"21 type", numberByHand(len(s.Types) - 3)}}
	for _, one := range s.Types[3:] {
		l = append(l, typeParts(one)...)
	}
	l = append(l, filePart{"16 object", numberByHand(len(s.Objects))})
	for _, one := range s.Objects {
		l = append(l, objectParts(one)...)
	}
	return l
}

func bytesOf(l []filePart) string {
	var all strings.Builder
	for _, one := range l {
		all.WriteString(one.bytes)
	}
	return all.String()
}

// sealed tells bytes with their sum behind them.
func sealed(ahead string) string {
	sum := 0
	for _, c := range []byte(ahead) {
		sum += int(c)
		if sum >= 65521 {
			sum -= 65521
		}
	}
	return string(binary.BigEndian.AppendUint16([]byte(ahead), uint16(sum)))
}

func fileByHand(s impl.Scope) string {
	return sealed("OS1" + bytesOf(fileParts(s)))
}

var nameForm = regexp.MustCompile(`^[A-Za-z][A-Za-z0-9]{0,9}$`)

// valueAt tells the value of a form that stands at the front of some bytes, and how many bytes it has:
// 0, where none does.
func valueAt(form string, b string) (any, int) {
	if b == "" {
		return nil, 0
	}
	first := int(b[0])
	low, high, isByte := strings.Cut(form, "-")
	most, _, isMany := strings.Cut(form, " ")
	switch {
	case isByte:
		if c := string([]byte{'0' + b[0]}); b[0] > 9 || c < low || c > high {
			return nil, 0
		}
		return first, 1
	case isMany:
		n, long := numberAtFront(b)
		if limit, _ := strconv.Atoi(most); n < 0 || n > limit {
			return nil, 0
		}
		return n, long
	case form == "number":
		return numberAtFront(b)
	case form == "maybe" && first == 0:
		return "", 1
	}
	if len(b) <= first || !nameForm.MatchString(b[1:1+first]) {
		return nil, 0
	}
	return b[1 : 1+first], 1 + first
}

// numberAtFront looks for the number of which the bytes are those that are there.
func numberAtFront(b string) (int, int) {
	n, unit := 0, 1
	for i, c := range []byte(b[:min(len(b), 5)]) {
		n += int(c%128) * unit
		unit *= 128
		if c >= 128 {
			continue
		}
		if n%2 == 0 {
			n /= 2
		} else {
			n = -(n + 1) / 2
		}
		if numberByHand(n) != b[:i+1] || n > 1000000000 || n < -1000000000 {
			return 0, 0
		}
		return n, i + 1
	}
	return 0, 0
}

// valuesOf tells all values that stand in a file behind its first three bytes, and the place behind
// them or of the first one that can not be read.
func valuesOf(b string) (values []any, at int, ok bool) {
	at = 3
	for ahead := []string{"file"}; len(ahead) > 0; {
		form := ahead[0]
		ahead = ahead[1:]
		if inner, made := fileForms[form]; made {
			ahead = slices.Concat(inner, ahead)
			continue
		}
		value, long := valueAt(form, b[at:])
		if long == 0 {
			return nil, at, false
		}
		values, at = append(values, value), at+long
		if _, thing, many := strings.Cut(form, " "); many {
			ahead = slices.Concat(slices.Repeat([]string{thing}, value.(int)), ahead)
		}
	}
	return values, at, true
}

// valueRow gives away values one by one.
type valueRow struct {
	values []any
}

func (r *valueRow) next() any {
	one := r.values[0]
	r.values = r.values[1:]
	return one
}

func (r *valueRow) number() int {
	return r.next().(int)
}

func (r *valueRow) text() string {
	return r.next().(string)
}

func (r *valueRow) scope() impl.Scope {
	s := impl.Scope{Name: r.text(), Types: impl.BaseTypes()}
	for range r.number() {
		var one impl.Type
		one.Kind, one.Long, one.Base, one.Owner, one.Name = r.number(), r.number(), r.number(), r.text(), r.text()
		for range r.number() {
			var f impl.Field
			f.Mark, f.Name, f.Type = r.number(), r.text(), r.number()
			one.Fields = append(one.Fields, f)
		}
		s.Types = append(s.Types, one)
	}
	for range r.number() {
		var one impl.Object
		one.Kind, one.Mark, one.Name, one.Type, one.Value = r.number(), r.number(), r.text(), r.number(), r.number()
		for range r.number() {
			var p impl.Param
			p.Name, p.ByVar, p.Type = r.text(), r.number() == 1, r.number()
			one.Params = append(one.Params, p)
		}
		s.Objects = append(s.Objects, one)
	}
	return s
}

// readByForm tells what ReadFile has to tell of any bytes.
func readByForm(b string) (s impl.Scope, code, at int) {
	if len(b) > 3000 {
		return s, 1, 0
	}
	if len(b) < 3 || b[:3] != "OS1" {
		return s, 2, 0
	}
	values, at, ok := valuesOf(b)
	switch {
	case !ok:
		return s, 3, at
	case len(b) != at+2:
		return s, 4, at
	case sealed(b[:at]) != b:
		return s, 5, at
	}
	row := valueRow{values}
	if got := row.scope(); isExportByForm(got) {
		return got, 0, 0
	}
	return s, 6, 0
}

func isExportByForm(s impl.Scope) bool {
	return scopeByForm(s) && sameByHand(s, exportByStack(s))
}

// checkRead asks for what ReadFile tells of any bytes, and for promise 7 where it tells true.
func checkRead(t *testing.T, b string) int {
	t.Helper()
	want, code, at := readByForm(b)
	got, gotCode, gotAt, ok := impl.ReadFile(b)
	if !sameByHand(got, want) || gotCode != code || gotAt != at || ok != (code == 0) {
		t.Fatalf("ReadFile(%q) = %v, %d, %d, %v, want %v, %d, %d", b, got, gotCode, gotAt, ok, want, code, at)
	}
	if !ok {
		return code
	}
	if back, good := impl.FileBytes(got); back != b || !good || fileByHand(got) != b {
		t.Fatalf("%q is read as %v, of which the bytes are %q, %v", b, got, back, good)
	}
	return 0
}

// checkBytes asks for all that is told of one scope by the chapter.
func checkBytes(t *testing.T, s impl.Scope) bool {
	t.Helper()
	want := ""
	if isExportByForm(s) {
		want = fileByHand(s)
	}
	if len(want) > 3000 {
		want = ""
	}
	got, ok := impl.FileBytes(s)
	if got != want || ok != (want != "") {
		t.Fatalf("FileBytes(%v) = %q, %v, want %q", s, got, ok, want)
	}
	wantFileSum(t, s, want)
	if want == "" {
		return false
	}
	if back, code, at, ok := impl.ReadFile(got); !sameByHand(back, s) || code != 0 || at != 0 || !ok {
		t.Fatalf("ReadFile(%q) = %v, %d, %d, %v, want %v", got, back, code, at, ok, s)
	}
	if name, ok := impl.SkipName(got); name != s.Name || !ok {
		t.Fatalf("SkipName(%q) = %q, %v", got, name, ok)
	}
	return true
}

// wantFileSum asks for the sum of a file, or of none, where its bytes are the empty text.
func wantFileSum(t *testing.T, s impl.Scope, file string) {
	t.Helper()
	want := 0
	if file != "" {
		want = mixedByHand(file)
	}
	if got, ok := impl.FileSum(s); got != want || ok != (file != "") {
		t.Fatalf("FileSum(%v) = %d, %v, want %d", s, got, ok, want)
	}
}

func mixedByHand(file string) int {
	var sums []int
	for piece := range slices.Chunk([]byte(file), 200) {
		sum := len(piece)
		for _, c := range piece {
			sum = mixOf(sum, int(c))
		}
		sums = append(sums, sum)
	}
	all := len(sums)
	for _, sum := range sums {
		all = mixOf(all, sum)
	}
	return all
}

// checkParts asks for the bytes of any type and any object.
func checkParts(t *testing.T, one impl.Type, o impl.Object) (bool, bool) {
	t.Helper()
	typeBytes, objectBytes := "", ""
	if typeAsSaid(one) {
		typeBytes = bytesOf(typeParts(one))
	}
	if objectAsSaid(o) {
		objectBytes = bytesOf(objectParts(o))
	}
	wantTypeBytes(t, one, typeBytes)
	wantObjectBytes(t, o, objectBytes)
	return typeBytes != "", objectBytes != ""
}

func nameOrEmpty(names ...string) bool {
	return !slices.ContainsFunc(names, func(s string) bool { return s != "" && !nameForm.MatchString(s) })
}

func typeAsSaid(t impl.Type) bool {
	for _, f := range t.Fields {
		if !isIn(f.Mark, 0, 2) || !nameOrEmpty(f.Name) || !isIn(f.Type, 0, 24) {
			return false
		}
	}
	return isIn(t.Kind, 4, 6) && isIn(t.Long, 0, 1000) && isIn(t.Base, -1, 24) && nameOrEmpty(t.Owner, t.Name) && len(t.Fields) <= 6
}

func objectAsSaid(o impl.Object) bool {
	for _, p := range o.Params {
		if !nameForm.MatchString(p.Name) || !isIn(p.Type, 0, 24) {
			return false
		}
	}
	return nameForm.MatchString(o.Name) && isIn(o.Kind, 1, 4) && isIn(o.Mark, 0, 2) && isIn(o.Type, -1, 24) &&
		isIn(o.Value, -1000000000, 1000000000) && len(o.Params) <= 4
}

// withPart tells bytes with one part of a file instead of another one.
func withPart(l []filePart, n int, bytes string) (file string, at int) {
	l = slices.Clone(l)
	l[n].bytes = bytes
	return sealed("OS1" + bytesOf(l)), 3 + len(bytesOf(l[:n]))
}

// spoilt tells a file with some bytes in it changed, left out or put in, mostly with the sum made right.
func (r *row) spoilt(file string) string {
	b := []byte(file[:len(file)-2])
	for range 1 + r.below(3) {
		n := r.below(len(b))
		some := []byte{0, 1, 2, 3, 4, 5, 6, 7, 8, 10, 11, 'A', 'x', 127, 128, 129, 255, byte(r.below(256))}
		c := some[r.below(len(some))]
		switch r.below(6) {
		case 0:
			b = slices.Delete(b, n, n+1)
		case 1:
			b = slices.Insert(b, n, c)
		case 2:
			b[n] += 2
		case 3:
			b[n] -= 2
		case 4:
			m := r.below(len(b))
			b[n], b[m] = b[m], b[n]
		default:
			b[n] = c
		}
		if len(b) == 0 {
			return ""
		}
	}
	if r.below(8) == 0 {
		return string(b) + file[len(file)-2:]
	}
	return sealed(string(b))
}

func TestManyFiles(t *testing.T) {
	r := &row{seed: 5}
	files := 0
	codes := map[int]int{}
	for range 3000 {
		s := r.someScope()
		checkBytes(t, s)
		if !scopeByForm(s) {
			continue
		}
		export := exportByStack(s)
		if checkBytes(t, export) {
			files++
		}
		for _, other := range []impl.Scope{r.changed(export), r.changedObject(export)} {
			checkBytes(t, other)
			codes[checkRead(t, fileByHand(other))]++
		}
		for range 10 {
			codes[checkRead(t, r.spoilt(fileByHand(export)))]++
		}
	}
	if files < 1500 || codes[0] < 1000 || codes[3] < 1000 || codes[4] < 100 || codes[5] < 100 || codes[6] < 1000 {
		t.Error("too few files of each sort", files, codes)
	}
}

func TestManyParts(t *testing.T) {
	r := &row{seed: 9}
	some := []int{-1 << 63, -1000000001, -1000000000, -3, -2, -1, 0, 0, 1, 1, 2, 2, 3, 3, 4, 4, 5, 5, 6, 6, 7, 24, 24, 25, 63, 64, 1000, 1001, 260, 1000000000, 1000000001, 1 << 32, 1<<63 - 1}
	texts := []string{"", "x", "INT", "Mod", "abcdefghij", "a1", "Zz", "Owner", "abcdefghijk", "a b"}
	few := func(n int) int {
		if r.below(6) > 0 {
			return r.below(n)
		}
		return some[r.below(len(some))]
	}
	types, objects := 0, 0
	for range 20000 {
		one := impl.Type{Kind: few(3) + 4, Long: few(1001), Base: few(26) - 1, Owner: texts[r.below(9)], Name: texts[r.below(9)]}
		for range r.below(5) * r.below(3) {
			one.Fields = append(one.Fields, field(texts[r.below(8)+r.below(5)/4], few(3), few(25)))
		}
		o := impl.Object{Name: texts[1+r.below(8)], Kind: 1 + few(4), Mark: few(3), Type: few(26) - 1, Value: some[r.below(len(some))]}
		for range r.below(3) * r.below(4) {
			o.Params = append(o.Params, param(texts[1+r.below(7)+r.below(5)/4], r.below(2) == 0, few(25)))
		}
		asType, asObject := checkParts(t, one, o)
		if asType {
			types++
		}
		if asObject {
			objects++
		}
	}
	if !isIn(types, 3000, 17000) || !isIn(objects, 3000, 17000) {
		t.Error("too few of each sort", types, objects)
	}
}
