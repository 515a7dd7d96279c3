package tests

import (
	"reflect"
	"slices"
	"strings"
	"testing"

	"loop.example/g00837/impl"
)

func wantTypeBytes(t *testing.T, one impl.Type, want string) {
	t.Helper()
	if got, ok := impl.TypeBytes(one); got != want || ok != (want != "") {
		t.Errorf("TypeBytes(%v) = %q, %v, want %q", one, got, ok, want)
	}
}

func wantObjectBytes(t *testing.T, o impl.Object, want string) {
	t.Helper()
	if got, ok := impl.ObjectBytes(o); got != want || ok != (want != "") {
		t.Errorf("ObjectBytes(%v) = %q, %v, want %q", o, got, ok, want)
	}
}

func wantNoFile(t *testing.T, b string, code, at int) {
	t.Helper()
	s, gotCode, gotAt, ok := impl.ReadFile(b)
	if !reflect.DeepEqual(withoutEmpty(s), impl.Scope{}) || gotCode != code || gotAt != at || ok {
		t.Errorf("ReadFile(%q) = %v, %d, %d, %v, want %d, %d", b, s, gotCode, gotAt, ok, code, at)
	}
}

func wantSkipped(t *testing.T, b, name string, good bool) {
	t.Helper()
	if got, ok := impl.SkipName(b); got != name || ok != good {
		t.Errorf("SkipName(%q) = %q, %v, want %q, %v", b, got, ok, name, good)
	}
}

// ringScope shows a record, and a variable that points to it.
func ringScope() impl.Scope {
	types := tableOf(
		calledSo(recordOf(-1, field("x", impl.MkFull, 0), field("", impl.MkNone, 4)), "A", "R"),
		calledSo(pointerTo(3), "A", "P"))
	return scopeOf(types, typeOf("R", impl.MkFull, 3), varOf("v", impl.MkRead, 4))
}

// filesTold are scopes, and the bytes of each but the sum.
var filesTold = []struct {
	scope impl.Scope
	bytes string
	sum   string
}{
	{scopeOf(impl.BaseTypes()), "OS1\x01A\x00\x00", "\x01\x15"},
	{ringScope(),
		"OS1\x01A" +
			"\x04" +
			"\x05\x00\x01\x01A\x01R\x04" + "\x01\x01x\x00" + "\x00\x00\x08" +
			"\x06\x00\x06\x01A\x01P\x00" +
			"\x04" +
			"\x02\x01\x01R\x06\x00\x00" +
			"\x03\x02\x01v\x08\x00\x00",
		"\x03\xbd"},
	{impl.Scope{Name: "abcdefghij", Types: tableOf(arrayOf(1000, 4), arrayOf(63, 5), arrayOf(64, 2)), Objects: []impl.Object{
		constOf("least", impl.MkFull, -impl.MaxWhole), varOf("free", impl.MkRead, 2), constOf("a", impl.MkFull, -65),
		procOf("run", impl.MkFull, -1), procOf("find9", impl.MkFull, 3, param("a", true, 5), param("in", false, 1))}},
		"OS1\x0aabcdefghij" +
			"\x06" +
			"\x04\xd0\x0f\x08\x00\x00\x00" + "\x04\x7e\x0a\x00\x00\x00" + "\x04\x80\x01\x04\x00\x00\x00" +
			"\x0a" +
			"\x01\x01\x05least\x00\xff\xa7\xd6\xb9\x07\x00" +
			"\x03\x02\x04free\x04\x00\x00" +
			"\x01\x01\x01a\x00\x81\x01\x00" +
			"\x04\x01\x03run\x01\x00\x00" +
			"\x04\x01\x05find9\x06\x00\x04" + "\x01a\x01\x0a" + "\x02in\x00\x02",
		"\x13\x69"},
}

func TestFilesByHand(t *testing.T) {
	for _, w := range filesTold {
		if b, ok := impl.FileBytes(w.scope); b != w.bytes+w.sum || !ok {
			t.Errorf("FileBytes(%v) = %q, %v, want %q", w.scope, b, ok, w.bytes+w.sum)
		}
		if fileByHand(w.scope) != w.bytes+w.sum {
			t.Errorf("the model's bytes of %v are %q", w.scope, fileByHand(w.scope))
		}
		checkBytes(t, w.scope)
		wantSkipped(t, w.bytes, w.scope.Name, true)
	}
	one := filesTold[1].scope
	wantTypeBytes(t, one.Types[3], "\x05\x00\x01\x01A\x01R\x04\x01\x01x\x00\x00\x00\x08")
	wantTypeBytes(t, one.Types[4], "\x06\x00\x06\x01A\x01P\x00")
	wantObjectBytes(t, one.Objects[1], "\x03\x02\x01v\x08\x00\x00")
	wantObjectBytes(t, procOf("f", 0, -1, param("x", true, 24)), "\x04\x00\x01f\x01\x00\x02\x01x\x01\x30")
}

func TestSumsOfFiles(t *testing.T) {
	for i, want := range []int{1074127393344706891, 989627733780409123, 3859238711428216236} {
		if got, ok := impl.FileSum(filesTold[i].scope); got != want || !ok {
			t.Errorf("FileSum of scope %d = %d, %v, want %d", i, got, ok, want)
		}
	}
}

// exports are what modules of all sorts tell to others.
func exports(t *testing.T) []impl.Scope {
	l := append(shown(t), exportOfFull(), oddExport())
	for _, w := range filesTold {
		l = append(l, w.scope)
	}
	return l
}

// oddExport has names that are hidden or told beside one another, and each number at a limit.
func oddExport() impl.Scope {
	return impl.Scope{Name: "Z", Types: tableOf(
		calledSo(arrayOf(1, 0), "Z", "Z"),
		recordOf(5, field("a", 2, 0), field("", 0, 1), field("b", 1, 2), field("", 0, 3), field("MODULE", 1, 6), field("z9", 2, 4+2)),
		recordOf(-1),
		calledSo(pointerTo(4), "Other", "abcdefghij"),
	), Objects: []impl.Object{
		varOf("abcdefghij", 2, 3), typeOf("Z", 1, 0), constOf("b", 1, impl.MaxWhole), constOf("c", 1, 0), constOf("d", 1, -1),
		procOf("e", 1, 4, param("abcdefghij", false, 0), param("b", true, 1), param("c", true, 3), param("d", false, 6)),
		procOf("f", 1, 2), procOf("g", 1, -1, param("Z", true, 4)),
	}}
}

func TestFilesAreReadBack(t *testing.T) {
	for _, s := range exports(t) {
		if !checkBytes(t, s) {
			t.Errorf("%v has no bytes", s)
		}
		checkRead(t, fileByHand(s))
	}
	if checkBytes(t, fullScope()) {
		t.Error("what is no export has bytes")
	}
	checkBytes(t, exportOf(t, fullScope()))
}

// TestFilesOfOneByteOtherwise asks for each file with each byte changed into each other one, left out,
// or with each byte put in ahead of it; as it is then, and with the sum made right.
func TestFilesOfOneByteOtherwise(t *testing.T) {
	codes := map[int]int{}
	for _, s := range []impl.Scope{ringScope(), filesTold[0].scope, filesTold[2].scope, oddExport()} {
		file := fileByHand(s)
		for at := range len(file) + 1 {
			for c := range 256 {
				some := string([]byte{byte(c)})
				others := []string{file[:at] + some + file[at:]}
				if at < len(file) && file[at] != byte(c) {
					others = append(others, file[:at]+some+file[at+1:])
				}
				if at < len(file) && c == 0 {
					others = append(others, file[:at]+file[at+1:])
				}
				for _, other := range others {
					if code := checkRead(t, other); code == 0 {
						t.Fatalf("%q is read, and %q, too", file, other)
					}
					if at < len(file)-2 {
						codes[checkRead(t, sealed(other[:len(other)-2]))]++
					}
				}
			}
		}
	}
	for code := range 7 {
		if codes[code] == 0 && code != 1 && code != 5 {
			t.Error("no file is told of", code, codes)
		}
	}
}

// TestFilesCutOff asks for the place of the part that does not end, or is not there, of which the
// parts tell by themselves where it begins.
func TestFilesCutOff(t *testing.T) {
	for _, s := range exports(t) {
		file := fileByHand(s)
		for long := range 3 {
			wantNoFile(t, file[:long], 2, 0)
		}
		at := 3
		for _, one := range fileParts(s) {
			for long := range len(one.bytes) {
				wantNoFile(t, file[:at+long], 3, at)
			}
			at += len(one.bytes)
		}
		wantNoFile(t, file[:at], 4, at)
		wantNoFile(t, file[:at+1], 4, at)
		if len(file) != at+2 {
			t.Error("other parts", file)
		}
		// The bytes of the sum may be read as what is cut off, which the model tells.
		for long := 3; long < at; long++ {
			checkRead(t, sealed(file[:long]))
		}
	}
}

// longNumbers are no numbers, as they have more bytes than they must have, or are too large.
var longNumbers = []string{
	"\x80\x00", "\x81\x00", "\x81\x80\x00", "\x80\x80\x80\x80\x00", "\x80\x80\x80\x80\x80\x00", "\x81\xa8\xd6\xb9\x07", "\x82\xa8\xd6\xb9\x07",
	"\xff\xff\xff\xff\x07", "\xff\xff\xff\xff\x7f", "\xff\xff\xff\xff\xff\x01", "\x80\x80\x80\x80\x80\x80\x80\x80\x80\x01", "\xff\xff\xff\xff\xff\xff\xff\xff\xff\xff",
}

// badBytes are such as can not stand where a form is asked for, whatever is behind them.
var badBytes = map[string][]string{
	"number":    longNumbers,
	"21 type":   counts(21),
	"16 object": counts(16),
	"6 field":   counts(6),
	"4 param":   counts(4),
	"name":      append([]string{"\x00", "\x00\x01A"}, notNames...),
	"maybe":     notNames,
	"4-6":       {"\x03", "\x07", "\x00", "\x01", "\x08", "\x84", "\xff"},
	"1-4":       {"\x00", "\x05", "\x06", "\x81", "\xff"},
	"0-2":       {"\x03", "\x04", "\x80", "\x82", "\xff"},
	"0-1":       {"\x02", "\x03", "\x80", "\x81", "\xff"},
}

var notNames = []string{
	"\x01\x00", "\x011", "\x01_", "\x01 ", "\x01\xff", "\x02A_", "\x02A\x00", "\x02A\xc3", "\x03A B", "\x03ab-", "\x0a123456789a", "\x0aabcdefghi.",
	"\x0babcdefghijk", "\x0cabcdefghijkl", "\x40" + strings.Repeat("a", 64), "\x80" + strings.Repeat("b", 128), "\xff" + strings.Repeat("c", 255),
}

func counts(most int) []string {
	return append([]string{
		numberByHand(most + 1), numberByHand(most + 2), numberByHand(-1), numberByHand(-2), numberByHand(-most), numberByHand(64), numberByHand(-64),
		numberByHand(256), numberByHand(1000000000), numberByHand(-1000000000),
	}, longNumbers...)
}

// TestPartsThatCanNotBeRead puts each of these in place of each part of a file, with the sum made right
// and not, with more behind, and with a fault further on.
func TestPartsThatCanNotBeRead(t *testing.T) {
	tried := map[string]bool{}
	for _, s := range exports(t) {
		parts := fileParts(s)
		for n, one := range parts {
			tried[one.form] = true
			for _, bytes := range badBytes[one.form] {
				file, at := withPart(parts, n, bytes)
				wantNoFile(t, file, 3, at)
				wantNoFile(t, file[:len(file)-2], 3, at)
				wantNoFile(t, file+"\x00", 3, at)
				wantNoFile(t, file[:len(file)-1]+"\xfe", 3, at)
				wantNoFile(t, file[:at+len(bytes)]+"\xff\xff\xff\xff\xff", 3, at)
			}
			// A part that is left out at the end of all bytes can not be read there.
			wantNoFile(t, "OS1"+bytesOf(parts[:n]), 3, 3+len(bytesOf(parts[:n])))
		}
	}
	if len(tried) != len(badBytes) || len(tried) != 11 {
		t.Error("not each form is tried", tried)
	}
}

// wantFileRead asks what is read of the bytes of a scope by the model, which has some of any scope: the
// scope again, where it is an export, and else code 6.
func wantFileRead(t *testing.T, s impl.Scope, export bool) {
	t.Helper()
	if export {
		checkBytes(t, s)
		if _, _, _, ok := impl.ReadFile(fileByHand(s)); !ok {
			t.Errorf("%v is not read", s)
		}
		return
	}
	wantNoFile(t, fileByHand(s), 6, 0)
	wantNoFile(t, fileByHand(s)+"\x00", 4, len(fileByHand(s))-2)
	if b, ok := impl.FileBytes(s); b != "" || ok {
		t.Errorf("FileBytes(%v) = %q, %v", s, b, ok)
	}
	if sum, ok := impl.FileSum(s); sum != 0 || ok {
		t.Errorf("FileSum(%v) = %d, %v", s, sum, ok)
	}
}

func TestFilesOfNoExports(t *testing.T) {
	wantFileRead(t, ringScope(), true)
	wantFileRead(t, oddExport(), true)
	for i, change := range []func(s *impl.Scope){
		func(s *impl.Scope) { s.Objects[0].Mark = 0 },
		func(s *impl.Scope) { s.Objects[0].Mark = 2 },
		func(s *impl.Scope) { s.Objects[1].Mark = 0 },
		func(s *impl.Scope) { s.Objects[1].Name = "R" },
		func(s *impl.Scope) { s.Objects[0], s.Objects[1] = s.Objects[1], s.Objects[0] },
		func(s *impl.Scope) { s.Objects[0].Type = 5 },
		func(s *impl.Scope) { s.Objects[0].Type = -1 },
		func(s *impl.Scope) { s.Objects[0].Type = impl.MaxWhole },
		func(s *impl.Scope) { s.Objects[0].Type = -impl.MaxWhole },
		func(s *impl.Scope) { s.Objects[0].Value = 1 },
		func(s *impl.Scope) { s.Objects[0].Kind = impl.ObConst },
		func(s *impl.Scope) { s.Objects[0].Params = []impl.Param{param("a", true, 0)} },
		func(s *impl.Scope) { s.Objects = nil },
		func(s *impl.Scope) { s.Types[3].Fields[1].Name = "y" },
		func(s *impl.Scope) { s.Types[3].Fields[0].Name = "" },
		func(s *impl.Scope) { s.Types[3].Fields[0].Mark = 0 },
		func(s *impl.Scope) { s.Types[3].Fields[0].Type = 5 },
		func(s *impl.Scope) { s.Types[3].Fields[0].Type = -1 },
		func(s *impl.Scope) { s.Types[3].Fields[0].Type = 24 },
		func(s *impl.Scope) { s.Types[3].Fields[0].Type = 25 },
		func(s *impl.Scope) { s.Types[3].Fields[0].Type = 3 },
		func(s *impl.Scope) { s.Types[3].Fields[1] = field("x", 1, 4) },
		func(s *impl.Scope) { s.Types[3].Long = 1 },
		func(s *impl.Scope) { s.Types[3].Long = -1 },
		func(s *impl.Scope) { s.Types[3].Base = 3 },
		func(s *impl.Scope) { s.Types[3].Base = 0 },
		func(s *impl.Scope) { s.Types[3].Base = -2 },
		func(s *impl.Scope) { s.Types[3].Kind = impl.KdPointer },
		func(s *impl.Scope) { s.Types[3].Owner = "" },
		func(s *impl.Scope) { s.Types[3].Name = "" },
		func(s *impl.Scope) { s.Types[3].Name = "P" },
		func(s *impl.Scope) { s.Types[4].Base = 4 },
		func(s *impl.Scope) { s.Types[4].Base = -1 },
		func(s *impl.Scope) { s.Types[4].Base = 24 },
		func(s *impl.Scope) { s.Types[4].Base = 25 },
		func(s *impl.Scope) { s.Types[4].Base = impl.MaxWhole },
		func(s *impl.Scope) { s.Types = append(s.Types, arrayOf(1, 0)) },
		func(s *impl.Scope) {
			s.Types = append(s.Types, arrayOf(1, 0), arrayOf(2, 0))
			s.Objects = append(s.Objects, varOf("a", 1, 6), varOf("b", 1, 5))
		},
	} {
		s := changedScope(ringScope(), change)
		if isExportByForm(s) {
			t.Error("an export by change", i)
		}
		wantFileRead(t, s, false)
	}
	for i, s := range badScopes() {
		b, ok := impl.FileBytes(s)
		sum, summed := impl.FileSum(s)
		if b != "" || ok || sum != 0 || summed {
			t.Errorf("bad scope %d has %q, %v, and %d, %v", i, b, ok, sum, summed)
		}
	}
	// What has imports or uses is no export, as a file has no place for them.
	for _, s := range []impl.Scope{
		changedScope(ringScope(), func(s *impl.Scope) { s.Imports = []string{"B"} }),
		changedScope(ringScope(), func(s *impl.Scope) {
			s.Imports, s.Uses = []string{"B"}, []impl.Use{{Mod: "B", Name: "x"}}
		}),
	} {
		if b, ok := impl.FileBytes(s); b != "" || ok {
			t.Errorf("FileBytes(%v) = %q, %v", s, b, ok)
		}
	}
}

// TestNumbersInFiles asks for a Long, a Base, a Type and a Value at their limits and one beyond.
func TestNumbersInFiles(t *testing.T) {
	for _, w := range []struct {
		long   int
		export bool
	}{{-impl.MaxWhole, false}, {-1, false}, {0, false}, {1, true}, {63, true}, {64, true}, {1000, true}, {1001, false}, {impl.MaxWhole, false}} {
		wantFileRead(t, scopeOf(tableOf(arrayOf(w.long, 1)), varOf("a", 1, 3)), w.export)
	}
	for _, w := range []struct {
		of     int
		export bool
	}{{-impl.MaxWhole, false}, {-2, false}, {-1, false}, {0, true}, {2, true}, {3, true}, {4, false}, {24, false}, {25, false}, {impl.MaxWhole, false}} {
		wantFileRead(t, scopeOf(tableOf(arrayOf(1, 0)), varOf("a", 1, 3), varOf("b", 2, w.of)), w.export)
		wantFileRead(t, scopeOf(tableOf(arrayOf(1, 0)), varOf("a", 1, 3), procOf("b", 1, 0, param("c", false, w.of))), w.export)
		wantFileRead(t, scopeOf(tableOf(arrayOf(1, 0)), varOf("a", 1, 3), procOf("b", 1, w.of)), w.export || w.of == -1)
		wantFileRead(t, scopeOf(tableOf(recordOf(-1, field("a", 1, w.of))), varOf("a", 1, 3)), w.export && w.of != 3)
		wantFileRead(t, scopeOf(tableOf(recordOf(-1), recordOf(w.of)), varOf("a", 1, 3), varOf("b", 1, 4)), w.of == 3 || w.of == -1)
	}
	for _, value := range []int{-impl.MaxWhole, -impl.MaxWhole + 1, -65, -64, -1, 0, 1, 63, 64, impl.MaxWhole - 1, impl.MaxWhole} {
		wantFileRead(t, scopeOf(impl.BaseTypes(), constOf("a", 1, value)), true)
	}
	for _, w := range []struct {
		of     int
		export bool
	}{{22, true}, {23, true}, {24, false}, {25, false}} {
		many := manyTypes(21)
		wantFileRead(t, changedScope(many, func(s *impl.Scope) { s.Objects[15].Type = w.of }), w.export)
		wantFileRead(t, changedScope(many, func(s *impl.Scope) { s.Objects[15].Params = []impl.Param{param("c", false, w.of)} }), w.export)
		wantFileRead(t, changedScope(many, func(s *impl.Scope) { s.Types[23].Fields = []impl.Field{field("a", 1, w.of)} }), w.of == 22)
		wantFileRead(t, changedScope(longScope(2900), func(s *impl.Scope) { s.Types[22].Base = w.of }), w.of == 23)
	}
}

// manyTypes tells a scope of that many types of its own: thirteen variables' and then procs' params'
// ones, the last one a record; with a proc behind all that needs none of them.
func manyTypes(many int) impl.Scope {
	s := scopeOf(impl.BaseTypes())
	for n := range many - 1 {
		s.Types = append(s.Types, calledSo(arrayOf(n+1, n%3), "A", "T"+string(rune('a'+n))))
	}
	s.Types = append(s.Types, recordOf(-1))
	for n := range min(many, 13) {
		s.Objects = append(s.Objects, varOf(string(rune('a'+n)), 1, 3+n))
	}
	for n := 13; n < many; n += 4 {
		p := procOf("p"+string(rune('a'+n)), 1, -1)
		for k := n; k < min(n+4, many); k++ {
			p.Params = append(p.Params, param(string(rune('a'+k)), k%2 == 0, 3+k))
		}
		s.Objects = append(s.Objects, p)
	}
	s.Objects = append(s.Objects, procOf("z", 1, 0))
	return s
}

// TestHowManyOfEach asks for as many types, fields, objects and params as there may be.
func TestHowManyOfEach(t *testing.T) {
	for many := 1; many <= 21; many++ {
		wantFileRead(t, manyTypes(many), true)
	}
	for many := range 7 {
		var fields []impl.Field
		for n := range many {
			fields = append(fields, field(string(rune('a'+n)), n%2+1, n%3))
		}
		s := scopeOf(tableOf(recordOf(-1, fields...)), typeOf("R", 1, 3))
		wantFileRead(t, s, true)
		wantTypeBytes(t, s.Types[3], bytesOf(typeParts(s.Types[3])))
	}
	for many := range 17 {
		s := scopeOf(impl.BaseTypes())
		for n := range many {
			s.Objects = append(s.Objects, constOf(string(rune('a'+n)), 1, n*n*n*n*n))
		}
		wantFileRead(t, s, true)
	}
	for many := range 5 {
		p := procOf("p", 1, -1)
		for n := range many {
			p.Params = append(p.Params, param(string(rune('a'+n)), n%2 == 0, n%3))
		}
		wantFileRead(t, scopeOf(impl.BaseTypes(), p), true)
		wantObjectBytes(t, p, bytesOf(objectParts(p)))
	}
	// One more is told at the number of how many there are.
	s := scopeOf(tableOf(slices.Repeat([]impl.Type{arrayOf(1, 0)}, 22)...))
	wantNoFile(t, fileByHand(s), 3, 5)
	s = scopeOf(impl.BaseTypes(), slices.Repeat([]impl.Object{constOf("a", 1, 0)}, 17)...)
	wantNoFile(t, fileByHand(s), 3, 6)
	s = scopeOf(tableOf(recordOf(-1, slices.Repeat([]impl.Field{field("a", 1, 0)}, 7)...)))
	wantNoFile(t, fileByHand(s), 3, 11)
	s = scopeOf(impl.BaseTypes(), procOf("p", 1, -1, slices.Repeat([]impl.Param{param("a", true, 0)}, 5)...))
	wantNoFile(t, fileByHand(s), 3, 13)
	// As many as may be are read, and are no export only in the end.
	s = scopeOf(tableOf(slices.Repeat([]impl.Type{arrayOf(1, 0)}, 21)...))
	wantFileRead(t, s, false)
	s = scopeOf(impl.BaseTypes(), slices.Repeat([]impl.Object{constOf("a", 1, 0)}, 16)...)
	wantFileRead(t, s, false)
	s = scopeOf(tableOf(recordOf(-1, slices.Repeat([]impl.Field{field("a", 1, 0)}, 6)...)))
	wantFileRead(t, s, false)
	s = scopeOf(impl.BaseTypes(), procOf("p", 1, -1, slices.Repeat([]impl.Param{param("a", true, 0)}, 4)...))
	wantFileRead(t, s, false)
}

// TestRestsOfFiles asks for fewer than two bytes behind what is read, and more, and for other sums.
func TestRestsOfFiles(t *testing.T) {
	for _, s := range exports(t) {
		file := fileByHand(s)
		at := len(file) - 2
		for _, more := range []string{"\x00", "\x01", "\xff", "A", "OS1", file, file[at:], file[at:] + file[at:], strings.Repeat("\x00", 100)} {
			wantNoFile(t, file+more, 4, at)
			wantNoFile(t, sealed(file+more), 4, at)
		}
		wantNoFile(t, file[:at], 4, at)
		wantNoFile(t, file[:at+1], 4, at)
		wantNoFile(t, file[:at]+file[at+1:], 4, at)
		for _, place := range []int{at, at + 1} {
			for by := 1; by < 256; by++ {
				other := []byte(file)
				other[place] += byte(by)
				wantNoFile(t, string(other), 5, at)
			}
		}
		if file[at] != file[at+1] {
			wantNoFile(t, file[:at]+file[at+1:]+file[at:at+1], 5, at)
		}
	}
	// A sum that is another one comes ahead of a scope that is no export.
	file := fileByHand(scopeOf(impl.BaseTypes(), constOf("a", 0, 0)))
	wantNoFile(t, file, 6, 0)
	wantNoFile(t, file[:len(file)-1]+"\x00", 5, len(file)-2)
	wantNoFile(t, file[:len(file)-1], 4, len(file)-2)
}

func TestHeadsOfFiles(t *testing.T) {
	for _, b := range []string{
		"", "O", "OS", "OS2", "os1", "OS0", "0S1", "SO1", "OS", "\x00", "\x01A", "OS\x01A", "\xffOS1", " OS1", "S1", "OS 1",
		"os1\x01A\x00\x00\x01\x15", "OS2\x01A\x00\x00\x01\x16", strings.Repeat("\x00", 3000),
	} {
		wantNoFile(t, b, 2, 0)
		wantSkipped(t, b, "", false)
	}
	wantNoFile(t, "OS1", 3, 3)
	wantNoFile(t, "OS1\x01", 3, 3)
	wantNoFile(t, "OS1\x01A", 3, 5)
	wantNoFile(t, "OS1\x01A\x00", 3, 6)
	wantNoFile(t, "OS1\x01A\x00\x00", 4, 7)
	wantNoFile(t, "OS1\x01A\x00\x00\x01", 4, 7)
	wantNoFile(t, "OS1\x01A\x00\x00\x01\x16", 5, 7)
	wantNoFile(t, "OS1\x01A\x00\x00\x02\x15", 5, 7)
	wantNoFile(t, "OS1\x01A\x00\x00\x01\x15\x00", 4, 7)
	wantNoFile(t, "OS1OS1", 3, 3)
}

// longScope tells a scope of which the file has that many bytes, from 70 to 3300.
func longScope(long int) impl.Scope {
	s := impl.Scope{Name: "moduleName", Types: impl.BaseTypes()}
	for n := range 21 {
		of := calledSo(recordOf(n+4), "ownerOfOne", string(rune('a'+n))+"nameOfOne")
		for k := range 6 {
			of.Fields = append(of.Fields, field(string(rune('a'+k))+"fieldName", k%2+1, k%3))
		}
		s.Types = append(s.Types, of)
	}
	for n := range 16 {
		o := procOf(string(rune('a'+n))+"procName9", 1, 3)
		for k := range 4 {
			o.Params = append(o.Params, param(string(rune('a'+k))+"paramName", k%2 == 0, k%3))
		}
		s.Objects = append(s.Objects, o)
	}
	over := func() int {
		s.Types[len(s.Types)-1].Base = -1
		return len(fileByHand(s)) - long
	}
	for over() >= 110 && len(s.Objects) > 1 {
		s.Objects = s.Objects[:len(s.Objects)-1]
	}
	for over() >= 110 && len(s.Types) > 4 {
		s.Types = s.Types[:len(s.Types)-1]
	}
	left := over()
	for _, name := range namesIn(&s) {
		by := min(left, len(*name)-1)
		*name = (*name)[:len(*name)-by]
		left -= by
	}
	return s
}

// namesIn tells where the names of a scope stand that may be of any length.
func namesIn(s *impl.Scope) []*string {
	var l []*string
	for n := range s.Types[3:] {
		one := &s.Types[3+n]
		l = append(l, &one.Owner, &one.Name)
		for k := range one.Fields {
			l = append(l, &one.Fields[k].Name)
		}
	}
	for n := range s.Objects {
		one := &s.Objects[n]
		l = append(l, &one.Name)
		for k := range one.Params {
			l = append(l, &one.Params[k].Name)
		}
	}
	return l
}

func TestMostBytesOfFiles(t *testing.T) {
	for long := 2980; long <= 3040; long++ {
		s := longScope(long)
		file := fileByHand(s)
		if len(file) != long || !isExportByForm(s) {
			t.Fatal("not of", long, "bytes", len(file))
		}
		if good := checkBytes(t, s); good != (long <= 3000) {
			t.Errorf("of %d bytes is told %v", long, good)
		}
		if long <= 3000 {
			checkRead(t, file)
			wantSkipped(t, file, "moduleName", true)
			continue
		}
		wantNoFile(t, file, 1, 0)
		wantSkipped(t, file, "", false)
	}
	whole := fileByHand(longScope(3000))
	wantNoFile(t, whole+"\x00", 1, 0)
	wantNoFile(t, whole[:2999], 4, 2998)
	wantNoFile(t, whole[:2998], 4, 2998)
	wantNoFile(t, whole[:2999]+"\x00", 5, 2998)
	// More bytes are told ahead of all that is in them.
	short := fileByHand(ringScope())
	wantNoFile(t, short+strings.Repeat("\x00", 3000-len(short)), 4, len(short)-2)
	for _, b := range []string{short, "", "OS2", "OS1\x00", short[:20]} {
		wantNoFile(t, b+strings.Repeat("\x00", 3001-len(b)), 1, 0)
		wantNoFile(t, b+strings.Repeat("O", 100000), 1, 0)
		wantSkipped(t, b+strings.Repeat("\x00", 3001-len(b)), "", false)
	}
}

// TestSumsOfPieces asks for files of 200 bytes, of one less and one more, and of as many as come about.
func TestSumsOfPieces(t *testing.T) {
	for _, long := range []int{150, 198, 199, 200, 201, 202, 399, 400, 401, 599, 600, 601, 1000, 1999, 2000, 2001, 2799, 2800, 2801, 2999, 3000} {
		s := longScope(long)
		file := fileByHand(s)
		if len(file) != long || !checkBytes(t, s) {
			t.Fatal("no file of", long, len(file))
		}
		wantFileSum(t, s, file)
		// A sum tells one file from another one.
		other := changedScope(s, func(s *impl.Scope) { s.Objects[0].Params[3].ByVar = !s.Objects[0].Params[3].ByVar })
		one, _ := impl.FileSum(s)
		if sum, ok := impl.FileSum(other); !ok || sum == one {
			t.Error("the same sum of another file", long)
		}
	}
}

// bytesAhead tells the sum of all bytes of a file ahead of its sum.
func bytesAhead(s impl.Scope) int {
	sum := 0
	for _, c := range []byte("OS1" + bytesOf(fileParts(s))) {
		sum += int(c)
	}
	return sum
}

// summed tells a scope the bytes of which have that sum, by letters of its names.
func summed(t *testing.T, sum int) impl.Scope {
	t.Helper()
	for long := min(3000, sum/55); long > 100; long -= 10 {
		s := longScope(long)
		names := slices.DeleteFunc(namesIn(&s), func(name *string) bool { return len(*name) < 2 })
		for _, name := range names {
			*name = (*name)[:len(*name)-1] + "a"
		}
		missing := sum - bytesAhead(s)
		if missing < 0 {
			continue
		}
		for _, name := range names {
			by := min(missing, 'z'-'a')
			*name = (*name)[:len(*name)-1] + string(rune('a'+by))
			missing -= by
		}
		if missing == 0 && bytesAhead(s) == sum {
			return s
		}
		break
	}
	t.Fatal("no scope with the sum", sum)
	return impl.Scope{}
}

// TestSumsByRound asks for files of which the bytes come round by 65521.
func TestSumsByRound(t *testing.T) {
	for _, w := range []struct {
		sum  int
		told string
	}{
		{65279, "\xfe\xff"}, {65280, "\xff\x00"}, {65519, "\xff\xef"}, {65520, "\xff\xf0"}, {65521, "\x00\x00"}, {65522, "\x00\x01"}, {65536, "\x00\x0f"},
		{65776, "\x00\xff"}, {65777, "\x01\x00"}, {131041, "\xff\xf0"}, {131042, "\x00\x00"}, {131043, "\x00\x01"}, {196563, "\x00\x00"},
	} {
		s := summed(t, w.sum)
		file := fileByHand(s)
		if file[len(file)-2:] != w.told || !checkBytes(t, s) {
			t.Errorf("the sum of %d is told %q", w.sum, file[len(file)-2:])
		}
		checkRead(t, file)
	}
}

func TestSkipName(t *testing.T) {
	wantSkipped(t, "", "", false)
	wantSkipped(t, "OS1", "", false)
	wantSkipped(t, "OS1\x00", "", false)
	wantSkipped(t, "OS1\x01", "", false)
	wantSkipped(t, "OS1\x01A", "A", true)
	wantSkipped(t, "OS1\x01AB", "A", true)
	wantSkipped(t, "OS1\x02A", "", false)
	wantSkipped(t, "OS1\x02AB", "AB", true)
	wantSkipped(t, "OS1\x0aabcdefghij", "abcdefghij", true)
	wantSkipped(t, "OS1\x0babcdefghijk", "", false)
	wantSkipped(t, "OS2\x01A", "", false)
	wantSkipped(t, "\x01A", "", false)
	wantSkipped(t, "OS\x01A", "", false)
	wantSkipped(t, "\x00OS1\x01A", "", false)
	for _, name := range goodNames {
		wantSkipped(t, "OS1"+textByHand(name), name, true)
		wantSkipped(t, "OS1"+textByHand(name)+"\xff\x00A", name, true)
		wantSkipped(t, "OS1"+textByHand(name)+strings.Repeat("\xff", 2996-len(name)), name, true)
		wantSkipped(t, "OS1"+textByHand(name)+strings.Repeat("\xff", 2997-len(name)), "", false)
	}
	for _, bytes := range append([]string{"\x00"}, notNames...) {
		wantSkipped(t, "OS1"+bytes, "", false)
		wantSkipped(t, "OS1"+bytes+"\x01A", "", false)
	}
	for _, s := range exports(t) {
		file := fileByHand(s)
		for long := range len(file) {
			name := ""
			if long >= 4+len(s.Name) {
				name = s.Name
			}
			wantSkipped(t, file[:long], name, name != "")
		}
	}
}

// aboutLimits are numbers at two limits and about them, such with the same last byte, and far ones.
func aboutLimits(limits [2]int) []int {
	numbers := append([]int{1 << 32, 1<<32 + 1, 1<<32 + 5}, farNumbers...)
	for _, limit := range limits {
		for by := -3; by <= 3; by++ {
			numbers = append(numbers, limit+by, limit+by+256, limit+by-256)
		}
	}
	return numbers
}

func TestTypesAsBytes(t *testing.T) {
	full := calledSo(recordOf(7, field("x", 1, 0), field("", 2, 24), field("", 0, 3)), "B", "R")
	full.Long = 9
	wantTypeBytes(t, full, "\x05\x12\x0e\x01B\x01R\x06\x01\x01x\x00\x02\x00\x30\x00\x00\x06")
	wantTypeBytes(t, impl.Type{Kind: 4}, "\x04\x00\x00\x00\x00\x00")
	wantTypeBytes(t, impl.Type{}, "")
	for _, one := range impl.BaseTypes() {
		wantTypeBytes(t, one, "")
	}
	for n, limits := range [][2]int{{4, 6}, {0, 1000}, {-1, 24}, {0, 24}, {0, 24}, {0, 2}, {0, 2}} {
		for _, number := range aboutLimits(limits) {
			one := copyOf([]impl.Type{full})[0]
			*[]*int{&one.Kind, &one.Long, &one.Base, &one.Fields[0].Type, &one.Fields[2].Type, &one.Fields[0].Mark, &one.Fields[2].Mark}[n] = number
			want := ""
			if number >= limits[0] && number <= limits[1] {
				want = bytesOf(typeParts(one))
			}
			wantTypeBytes(t, one, want)
		}
	}
	for many := range 20 {
		one := recordOf(-1, slices.Repeat([]impl.Field{field("a", 1, 0)}, many)...)
		want := ""
		if many <= 6 {
			want = "\x05\x00\x01\x00\x00" + numberByHand(many) + strings.Repeat("\x01\x01a\x00", many)
		}
		wantTypeBytes(t, one, want)
	}
}

func TestNamesInTypesAndObjects(t *testing.T) {
	for _, name := range append(slices.Concat(goodNames, badNames), "") {
		good := slices.Contains(goodNames, name)
		want := func(bytes string, may bool) string {
			if good || may && name == "" {
				return bytes
			}
			return ""
		}
		told := textByHand(name)
		wantTypeBytes(t, calledSo(arrayOf(1, 0), name, "T"), want("\x04\x02\x00"+told+"\x01T\x00", true))
		wantTypeBytes(t, calledSo(arrayOf(1, 0), "O", name), want("\x04\x02\x00\x01O"+told+"\x00", true))
		wantTypeBytes(t, calledSo(arrayOf(1, 0), name, name), want("\x04\x02\x00"+told+told+"\x00", true))
		wantTypeBytes(t, recordOf(-1, field(name, 0, 0), field("a", 1, 1)), want("\x05\x00\x01\x00\x00\x04\x00"+told+"\x00\x01\x01a\x02", true))
		wantTypeBytes(t, recordOf(-1, field("a", 1, 1), field(name, 2, 0)), want("\x05\x00\x01\x00\x00\x04\x01\x01a\x02\x02"+told+"\x00", true))
		wantObjectBytes(t, constOf(name, 1, 0), want("\x01\x01"+told+"\x00\x00\x00", false))
		wantObjectBytes(t, procOf("p", 0, 1, param(name, true, 0), param("a", false, 1)), want("\x04\x00\x01p\x02\x00\x04"+told+"\x01\x00\x01a\x00\x02", false))
		wantObjectBytes(t, procOf("p", 0, 1, param("a", false, 1), param(name, true, 0)), want("\x04\x00\x01p\x02\x00\x04\x01a\x00\x02"+told+"\x01\x00", false))
	}
}

func TestObjectsAsBytes(t *testing.T) {
	full := impl.Object{Name: "Obj1", Kind: impl.ObVar, Mark: impl.MkRead, Type: 24, Value: -1000000000, Params: []impl.Param{param("a", true, 24), param("a", false, 0)}}
	wantObjectBytes(t, full, "\x03\x02\x04Obj1\x30\xff\xa7\xd6\xb9\x07\x04\x01a\x01\x30\x01a\x00\x00")
	wantObjectBytes(t, impl.Object{}, "")
	wantObjectBytes(t, impl.Object{Name: "a", Kind: 1}, "\x01\x00\x01a\x00\x00\x00")
	for n, limits := range [][2]int{{1, 4}, {0, 2}, {-1, 24}, {-impl.MaxWhole, impl.MaxWhole}, {0, 24}, {0, 24}} {
		for _, number := range aboutLimits(limits) {
			o := full
			o.Params = slices.Clone(full.Params)
			*[]*int{&o.Kind, &o.Mark, &o.Type, &o.Value, &o.Params[0].Type, &o.Params[1].Type}[n] = number
			want := ""
			if number >= limits[0] && number <= limits[1] {
				want = bytesOf(objectParts(o))
			}
			wantObjectBytes(t, o, want)
		}
	}
	for many := range 20 {
		o := procOf("p", 1, -1, slices.Repeat([]impl.Param{param("a", true, 0)}, many)...)
		want := ""
		if many <= 4 {
			want = "\x04\x01\x01p\x01\x00" + numberByHand(many) + strings.Repeat("\x01a\x01\x00", many)
		}
		wantObjectBytes(t, o, want)
	}
}

// callFiles calls each function of the chapter.
func callFiles(s impl.Scope, b string) {
	impl.FileBytes(s)
	impl.FileSum(s)
	impl.ReadFile(b)
	impl.SkipName(b)
	for _, one := range s.Types {
		impl.TypeBytes(one)
	}
	for _, one := range s.Objects {
		impl.ObjectBytes(one)
	}
}

func TestFilesWriteIntoNothing(t *testing.T) {
	for i, s := range append(append(badScopes(), exports(t)...), fullScope(), longScope(3000), longScope(3001)) {
		before := copyOfScope(s)
		callFiles(s, "")
		if !reflect.DeepEqual(s, before) {
			t.Fatalf("scope %d is written into", i)
		}
	}
}

func TestWhatLiesBehindFiles(t *testing.T) {
	for _, s := range exports(t) {
		apart, same := laidApart(s)
		checkBytes(t, apart)
		for n, one := range apart.Types[3:] {
			wantTypeBytes(t, one, bytesOf(typeParts(s.Types[3+n])))
		}
		for n, one := range apart.Objects {
			wantObjectBytes(t, one, bytesOf(objectParts(s.Objects[n])))
		}
		callFiles(apart, fileByHand(s))
		if !same() {
			t.Errorf("what lies behind the lists of %v is written into", s)
		}
	}
}

func TestFileAnswersAreNewMemory(t *testing.T) {
	for _, s := range append(exports(t), longScope(3000)) {
		s = withOwnTexts(s)
		file, ok := impl.FileBytes(s)
		again, _ := impl.FileBytes(s)
		if !ok || overlap(file, again) {
			t.Fatal("bytes are kept", file)
		}
		apartTexts(t, textsOf(s), file)
		for _, one := range s.Types[3:] {
			b, _ := impl.TypeBytes(one)
			apartTexts(t, textsOf(s), b)
		}
		for _, one := range s.Objects {
			b, _ := impl.ObjectBytes(one)
			apartTexts(t, textsOf(s), b)
		}
		first, _, _, ok := impl.ReadFile(file)
		second, _, _, _ := impl.ReadFile(file)
		if !ok {
			t.Fatal("not read", file)
		}
		wantNewMemory(t, first, slices.Concat(spansOf(s), spansOf(second)), append(textsOf(s), file))
		clear(first.Types[:cap(first.Types)])
		clear(first.Objects[:cap(first.Objects)])
		if third, _, _, _ := impl.ReadFile(file); !sameByHand(second, s) || !sameByHand(third, s) {
			t.Error("an answer is kept")
		}
		name, _ := impl.SkipName(file)
		apartTexts(t, []string{file}, name)
	}
}

// TestFilesAnswerAnything: a panic fails.
func TestFilesAnswerAnything(t *testing.T) {
	r := &row{seed: 31}
	some := []int{-1 << 63, -1000, -2, -1, 0, 1, 2, 3, 4, 5, 6, 16, 24, 25, 1 << 32, 1<<63 - 1}
	texts := []string{"", "x", "INT", "M", "a b", "\xff", "abcdefghijk", strings.Repeat("z", 1000)}
	any := func() int { return some[r.below(len(some))] }
	text := func() string { return texts[r.below(len(texts))] }
	for range 3000 {
		s := impl.Scope{Name: text(), Types: impl.BaseTypes()[:r.below(4)]}
		for range r.below(5) {
			one := impl.Type{Kind: any(), Long: any(), Base: any(), Owner: text(), Name: text()}
			for range r.below(9) {
				one.Fields = append(one.Fields, field(text(), any(), any()))
			}
			s.Types = append(s.Types, one)
		}
		for range r.below(4) {
			o := impl.Object{Name: text(), Kind: any(), Mark: any(), Type: any(), Value: any()}
			for range r.below(7) {
				o.Params = append(o.Params, param(text(), r.below(2) == 0, any()))
			}
			s.Objects = append(s.Objects, o)
		}
		checkBytes(t, s)
		callFiles(s, text())
		var b []byte
		for range r.below(60) {
			b = append(b, byte(any()+r.below(2)*r.below(256)))
		}
		for _, head := range []string{"", "OS1", "OS1\x01A", "OS1\x01A\x02", "OS1\x01A\x00\x02"} {
			checkRead(t, head+string(b))
			checkRead(t, sealed(head+string(b)))
		}
	}
}
