package cut_test

import (
	"encoding/hex"
	"slices"
	"strings"
	"testing"

	"selkie/api"
	"selkie/cut"
	"selkie/dots"
	"selkie/octet"
	"selkie/vec"
)

// coded is a cut, its set written as the Texts of its ids, and the digits of its encoding.
type coded struct {
	v    api.Vec
	d    string
	code string
}

// codes are the zero cut, ordinary ones, and such of the least and the greatest values.
func codes() []coded {
	return []coded{
		{api.Vec{}, "", "00 00"},
		{api.Vec{0, 2}, "1.4", "01 02 00 01 02 01 01 01 01 01 04"},
		{api.Vec{1, 2, 3}, "", "01 03 01 01 01 02 01 03 00"},
		{api.Vec{}, "0.2", "00 01 01 00 01 02"},
		{api.Vec{}, "2.300 7.2", "00 01 02 01 02 02 01 2C 01 07 01 02"},
		{api.Vec{5, 0, 0, 300}, "0.7 0.8 3.302", "01 04 01 05 00 00 02 01 2C 01 03 00 01 07 00 01 08 01 03 02 01 2E"},
		{api.Vec{0, 0, 0, 0, 0, 0, 0, 1}, "7.3", "01 08 00 00 00 00 00 00 00 01 01 01 01 01 07 01 03"},
		{api.Vec{maxCount}, "", "01 01 03 10 00 00 00"},
		{api.Vec{maxCount - 2}, "0.1048576 7.1048576", "01 01 03 0F FF FE 01 02 00 03 10 00 00 01 07 03 10 00 00"},
		{same(maxCount), "", "01 08" + strings.Repeat(" 03 10 00 00", 8) + " 00"},
	}
}

// unhex is the bytes of hexadecimal digits, which spaces may separate.
func unhex(t *testing.T, digits string) string {
	t.Helper()
	b, err := hex.DecodeString(strings.ReplaceAll(digits, " ", ""))
	if err != nil {
		t.Fatal(err)
	}
	return string(b)
}

// encoded is the bytes of a number and of these ids, which need not be a set, nor as many.
func encoded(n int, l []api.Id) string {
	var code strings.Builder
	code.WriteString(octet.Num(uint64(n)))
	for _, id := range l {
		code.WriteString(octet.Num(uint64(id.Origin)) + octet.Num(uint64(id.Seq)))
	}
	return code.String()
}

// checkWrite holds what Write of c returns.
func checkWrite(t *testing.T, name string, c cut.Cut, want string, e api.Errno) {
	t.Helper()
	given, kept := lend(t, c)
	if got, gotE := cut.Write(given); got != want || gotE != e {
		t.Errorf("Write of %s: % X, error %d; want % X, error %d", name, got, gotE, want, e)
	}
	kept()
}

// TestWrite: promise 8.3, Write of cuts: the vector as vec.Write does it, then the set as dots.Write does.
func TestWrite(t *testing.T) {
	for _, c := range codes() {
		checkWrite(t, c.code, of(t, c.v, c.d), unhex(t, c.code), api.OK)
	}
	for _, k := range wholes(t) {
		set, _ := dots.Write(k.c.D)
		checkWrite(t, k.name, k.c, vec.Write(k.c.V)+set, api.OK)
		checkWrite(t, k.name, k.c, vec.Write(k.c.V)+encoded(len(k.c.D), k.c.D), api.OK)
	}
}

// TestWriteErrors: promise 8.3, Write of what is no cut.
func TestWriteErrors(t *testing.T) {
	for _, bad := range faulty(t) {
		checkWrite(t, bad.name, bad.c, "", bad.e)
	}
}

// checkAt holds the reader's offset, and its error: a Fault at this offset, of this number, or none if e is OK.
func checkAt(t *testing.T, name string, r *octet.Reader, at int, e api.Errno) {
	t.Helper()
	if r.At() != at {
		t.Errorf("%s: offset %d; want %d", name, r.At(), at)
	}
	if e == api.OK {
		if r.Err() != nil {
			t.Errorf("%s: %v; want no error", name, r.Err())
		}
		return
	}
	f, ok := r.Err().(*api.Fault)
	if !ok || f == nil || f.At != at || f.Err != error(e) {
		t.Errorf("%s: %v; want error %d at %d", name, r.Err(), e, at)
	}
}

// checkRead holds that the bytes are decoded to want, or to the zero cut beside an error, and where; whatever is before them moves the offset.
func checkRead(t *testing.T, code string, want cut.Cut, at int, e api.Errno) {
	t.Helper()
	for _, before := range []string{"", "\x00", "\x01\x07\x00\x02\x01\x2c"} {
		r := octet.New(before + code)
		for r.At() < len(before) {
			r.Num()
		}
		name := "Read of " + hex.EncodeToString([]byte(code))
		checkCut(t, name, cut.Read(r), api.OK, want, api.OK)
		checkAt(t, name, r, len(before)+at, e)
	}
}

// TestRead: promise 8.3, Read goes on where the reader is, and ends behind the cut, whatever follows.
func TestRead(t *testing.T) {
	for _, c := range codes() {
		code := unhex(t, c.code)
		for _, rest := range []string{"", "\x00", "\x09", "\x01\x01", "\xff\xff", code} {
			checkRead(t, code+rest, of(t, c.v, c.d), len(code), api.OK)
		}
	}
	for _, k := range wholes(t) {
		code := vec.Write(k.c.V) + encoded(len(k.c.D), k.c.D)
		checkRead(t, code, k.c, len(code), api.OK)
		checkRead(t, code+"\x01\x01", k.c, len(code), api.OK)
	}
}

// TestReadCut: promise 8.3, a cut that is cut off at every place: the error is at the start of the integer that is not whole.
func TestReadCut(t *testing.T) {
	whole := []string{vec.Write(same(100)) + encoded(64, row(64))}
	for _, c := range codes() {
		whole = append(whole, unhex(t, c.code))
	}
	for _, code := range whole {
		for start := 0; start < len(code); start += 1 + int(code[start]) {
			for end := start; end <= start+int(code[start]); end++ {
				checkRead(t, code[:end], cut.Cut{}, start, api.ErrShort)
			}
		}
	}
}

// TestReadVector: promise 8.3, a vector that is not valid, or not as it must be, is vec.Read's error, whatever follows.
func TestReadVector(t *testing.T) {
	for _, c := range []struct {
		vector string
		at     int
		e      api.Errno
	}{
		{"01 09", 0, api.ErrRange},
		{"01 FF", 0, api.ErrRange},
		{"08 FF FF FF FF FF FF FF FF", 0, api.ErrRange},
		{"09", 0, api.ErrField},
		{"01 00", 0, api.ErrField},
		{"02 00 01", 0, api.ErrField},
		{"01 01 03 10 00 01", 2, api.ErrRange},
		{"01 02 00 04 FF FF FF FF", 3, api.ErrRange},
		{"01 08 00 00 00 00 00 00 00 08 FF FF FF FF FF FF FF FF", 9, api.ErrRange},
		{"01 02 01 05 09", 4, api.ErrField},
		{"01 02 01 05 01 00", 4, api.ErrField},
		{"01 01 00", 3, api.ErrField},
		{"01 02 01 05 00", 5, api.ErrField},
		{"01 08 01 01 01 02 01 03 01 04 01 05 01 06 01 07 00", 17, api.ErrField},
	} {
		for _, rest := range []string{"", "\x00", "\x09", "\x01\x41", encoded(1, row(1)), encoded(65, row(65)), encoded(2, backwards(row(2)))} {
			checkRead(t, unhex(t, c.vector)+rest, cut.Cut{}, c.at, c.e)
		}
	}
}

// TestReadSet: promise 8.3, a set that is not valid, or not as it must be, is dots.Read's error behind a vector, even if both could be no cut, and whatever follows.
func TestReadSet(t *testing.T) {
	for _, c := range []struct {
		set string
		at  int
		e   api.Errno
	}{
		{"01 41", 0, api.ErrRange},
		{"01 FF", 0, api.ErrRange},
		{"08 FF FF FF FF FF FF FF FF", 0, api.ErrRange},
		{"09", 0, api.ErrField},
		{"01 00", 0, api.ErrField},
		{"01 01 01 08 01 04", 2, api.ErrRange},
		{"01 01 09", 2, api.ErrField},
		{"01 01 01 01 00", 5, api.ErrRange},
		{"01 01 01 01 03 10 00 01", 4, api.ErrRange},
		{"01 01 01 01 02 00 04", 4, api.ErrField},
		{"01 02 01 01 01 04 01 09 01 01", 6, api.ErrRange},
		{"01 02 01 01 01 04 01 01 00", 9, api.ErrRange},
		{"01 02 01 01 01 01 01 01 00", 9, api.ErrRange},
		{"01 02 01 01 01 04 01 01 01 04", 10, api.ErrField},
		{"01 02 01 01 01 05 01 01 01 04", 10, api.ErrField},
		{"01 02 01 02 01 05 01 01 01 07", 10, api.ErrField},
		{"01 02 01 01 01 03 01 01 01 03", 10, api.ErrField},
		{"01 02 01 01 01 02 01 01 01 01", 10, api.ErrField},
	} {
		for _, v := range []api.Vec{{}, {0, 2}, {1, 2, 3, 4, 5, 6, 7, 8}, same(maxCount)} {
			for _, rest := range []string{"", "\x00", "\x09", "\x01\x01"} {
				vector := vec.Write(v)
				checkRead(t, vector+unhex(t, c.set)+rest, cut.Cut{}, len(vector)+c.at, c.e)
			}
		}
	}
}

// TestReadNoCut: promise 8.3, a vector and a set that make no cut are an error behind both, whatever follows.
func TestReadNoCut(t *testing.T) {
	held := 0
	for _, bad := range noCuts(t) {
		if dots.Check(bad.c.D) != api.OK {
			continue
		}
		held++
		code := vec.Write(bad.c.V) + encoded(len(bad.c.D), bad.c.D)
		for _, rest := range []string{"", "\x00", "\x09", "\x01\x01", code} {
			checkRead(t, code+rest, cut.Cut{}, len(code), api.ErrField)
		}
		// What is cut off comes first.
		checkRead(t, code[:len(code)-1], cut.Cut{}, lastInteger(code), api.ErrShort)
	}
	if held < 10 {
		t.Errorf("only %d of these have a set, too few to tell anything", held)
	}
}

// lastInteger is the offset of the last of the integers that bytes are.
func lastInteger(code string) int {
	at := 0
	for next := 0; next < len(code); next += 1 + int(code[next]) {
		at = next
	}
	return at
}

// TestReadAfterError: promise 8.3, of a reader that already has an error nothing is decoded, and the error stays.
func TestReadAfterError(t *testing.T) {
	for _, code := range []string{"", "00 00", "01 02 00 01 02 01 01 01 01 01 04", "01 02 00 01 02 01 01 01 01 01 03", "01 01 00 00", "00 01 41", "09"} {
		for _, e := range []api.Errno{api.ErrKind, api.ErrRange, api.ErrField, api.ErrCommand, -1} {
			r := octet.New("\x01\x05" + unhex(t, code))
			r.Num()
			r.Fail(e)
			for range 2 {
				checkCut(t, "Read of a reader with an error", cut.Read(r), api.OK, cut.Cut{}, api.OK)
				checkAt(t, "a reader with an error", r, 2, e)
			}
		}
	}
}

// TestReadNone: P1, Read ends on a nil Reader and on a zero one.
func TestReadNone(t *testing.T) {
	for _, r := range []*octet.Reader{nil, {}} {
		checkCut(t, "Read of no bytes", cut.Read(r), api.OK, cut.Cut{}, api.OK)
	}
	var r octet.Reader
	cut.Read(&r)
	checkAt(t, "a zero reader", &r, 0, api.ErrShort)
}

// TestReadSeveral: promise 8.3, cuts one behind the other, up to the end; none of them shares memory with another one.
func TestReadSeveral(t *testing.T) {
	var code strings.Builder
	for _, c := range codes() {
		code.WriteString(unhex(t, c.code))
	}
	r := octet.New(code.String())
	var all []cut.Cut
	for range codes() {
		all = append(all, cut.Read(r))
	}
	if err := r.End(); err != nil {
		t.Errorf("End: %v", err)
	}
	for i, c := range codes() {
		checkCut(t, "Read", all[i], api.OK, of(t, c.v, c.d), api.OK)
	}
}

// short is the strings of up to n of these bytes.
func short(bytes string, n int) []string {
	out := []string{""}
	for from := 0; n > 0; n-- {
		to := len(out)
		for _, s := range out[from:to] {
			for _, b := range []byte(bytes) {
				out = append(out, s+string([]byte{b}))
			}
		}
		from = to
	}
	return out
}

// TestReadShortStrings: promise 8.3, all short strings of telling bytes: Read is vec.Read, dots.Read and Check, one after the other, and none but what Write returns is decoded.
func TestReadShortStrings(t *testing.T) {
	wholes, noCuts := 0, 0
	for _, s := range short("\x00\x01\x02\x03", 9) {
		r, parts := octet.New(s), octet.New(s)
		got := cut.Read(r)
		want := cut.Cut{V: vec.Read(parts), D: dots.Read(parts)}
		if parts.Err() == nil && checkOf(want) != api.OK {
			parts.Fail(checkOf(want))
			noCuts++
		}
		if parts.Err() != nil {
			want = cut.Cut{}
		} else if code, e := cut.Write(got); code != s[:r.At()] || e != api.OK {
			t.Errorf("% X is decoded to %v, which is encoded as % X", s, got, code)
		} else if r.End() == nil {
			wholes++
		}
		checkSameEnd(t, s, r, parts)
		if got.V != want.V || !slices.Equal(got.D, want.D) {
			t.Errorf("% X is decoded to %v; want %v", s, got, want)
		}
	}
	if wholes < 100 || noCuts < 10 {
		t.Errorf("only %d of these are cuts, and %d are a vector and a set that make none, too few to tell anything", wholes, noCuts)
	}
}

// checkSameEnd holds that two readers are at the same offset, with the same error, or both without any, behind what a cut needs.
func checkSameEnd(t *testing.T, s string, r, parts *octet.Reader) {
	t.Helper()
	got, want := r.End(), parts.End()
	if r.At() != parts.At() || (got == nil) != (want == nil) || got != nil && got.Error() != want.Error() {
		t.Errorf("% X: %v at %d; want %v at %d", s, got, r.At(), want, parts.At())
	}
}
