package vec_test

import (
	"encoding/hex"
	"math"
	"strings"
	"testing"

	"selkie/api"
	"selkie/octet"
	"selkie/vec"
)

// known is a vector, its Text and the digits of its encoding.
type known struct {
	v    api.Vec
	text string
	code string
}

// knowns are the zero vector, such with zero elements behind and between others, and the least and the greatest elements.
func knowns() []known {
	return []known{
		{api.Vec{}, "-", "00"},
		{api.Vec{1}, "1", "01 01 01 01"},
		{api.Vec{3, 2}, "3,2", "01 02 01 03 01 02"},
		{api.Vec{0, 2}, "0,2", "01 02 00 01 02"},
		{api.Vec{0, 0, 0, 0, 0, 0, 1}, "0,0,0,0,0,0,1", "01 07 00 00 00 00 00 00 01 01"},
		{api.Vec{0, 0, 0, 0, 0, 0, 0, 1}, "0,0,0,0,0,0,0,1", "01 08 00 00 00 00 00 00 00 01 01"},
		{api.Vec{5, 0, 0, 300}, "5,0,0,300", "01 04 01 05 00 00 02 01 2C"},
		{api.Vec{0, 10, 0, 100}, "0,10,0,100", "01 04 00 01 0A 00 01 64"},
		{api.Vec{255, 256, 65535, 65536}, "255,256,65535,65536", "01 04 01 FF 02 01 00 02 FF FF 03 01 00 00"},
		{api.Vec{1, 2, 3, 4, 5, 6, 7, 8}, "1,2,3,4,5,6,7,8", "01 08 01 01 01 02 01 03 01 04 01 05 01 06 01 07 01 08"},
		{api.Vec{maxCount}, "1048576", "01 01 03 10 00 00"},
		{api.Vec{0, 0, maxCount - 1}, "0,0,1048575", "01 03 00 00 03 0F FF FF"},
		{same(maxCount), "1048576" + strings.Repeat(",1048576", 7), "01 08" + strings.Repeat(" 03 10 00 00", 8)},
	}
}

// beyond are vectors with elements that are no counts: they have a Text and an encoding, but are not decoded.
func beyond() []known {
	return []known{
		{api.Vec{maxCount + 1}, "1048577", "01 01 03 10 00 01"},
		{api.Vec{0, 1 << 31}, "0,2147483648", "01 02 00 04 80 00 00 00"},
		{api.Vec{math.MaxUint32, 0, 7}, "4294967295,0,7", "01 03 04 FF FF FF FF 00 01 07"},
		{same(math.MaxUint32), "4294967295" + strings.Repeat(",4294967295", 7), "01 08" + strings.Repeat(" 04 FF FF FF FF", 8)},
	}
}

// unhex is the bytes of hexadecimal digits, which spaces may separate.
func unhex(t *testing.T, digits string) string {
	t.Helper()
	b, err := hex.DecodeString(strings.ReplaceAll(digits, " ", ""))
	if err != nil {
		t.Fatal(err)
	}
	return string(b)
}

// TestText: promise 6.3, Text.
func TestText(t *testing.T) {
	for _, k := range append(knowns(), beyond()...) {
		if got := vec.Text(k.v); got != k.text {
			t.Errorf("Text(%v): %q; want %q", k.v, got, k.text)
		}
	}
}

// TestWrite: promise 6.3, Write.
func TestWrite(t *testing.T) {
	for _, k := range append(knowns(), beyond()...) {
		if got := vec.Write(k.v); got != unhex(t, k.code) {
			t.Errorf("Write(%v): % X; want %s", k.v, got, k.code)
		}
	}
}

// checkAt holds the reader's offset, and its error: a Fault at this offset, of this number, or none if e is OK.
func checkAt(t *testing.T, name string, r *octet.Reader, at int, e api.Errno) {
	t.Helper()
	if r.At() != at {
		t.Errorf("%s: offset %d; want %d", name, r.At(), at)
	}
	if e == api.OK {
		if r.Err() != nil {
			t.Errorf("%s: %v; want no error", name, r.Err())
		}
		return
	}
	f, ok := r.Err().(*api.Fault)
	if !ok || f == nil || f.At != at || f.Err != error(e) {
		t.Errorf("%s: %v; want error %d at %d", name, r.Err(), e, at)
	}
}

// checkRead holds that the bytes are decoded to want, or to the zero vector beside an error, and where; whatever is before them moves the offset.
func checkRead(t *testing.T, code string, want api.Vec, at int, e api.Errno) {
	t.Helper()
	for _, before := range []string{"", "\x00", "\x01\x07\x00\x02\x01\x2c"} {
		r := octet.New(before + code)
		for r.At() < len(before) {
			r.Num()
		}
		name := "Read of " + hex.EncodeToString([]byte(code))
		if got := vec.Read(r); got != want {
			t.Errorf("%s: %v; want %v", name, got, want)
		}
		checkAt(t, name, r, len(before)+at, e)
	}
}

// TestRead: promise 6.3, Read goes on where the reader is, and ends behind the vector, whatever follows.
func TestRead(t *testing.T) {
	for _, k := range knowns() {
		code := unhex(t, k.code)
		for _, rest := range []string{"", "\x00", "\x09", "\x01\x01", "\xff\xff", code} {
			checkRead(t, code+rest, k.v, len(code), api.OK)
		}
	}
}

// TestReadCut: promise 6.3, a vector that is cut off at every place: the error is at the start of the integer that is not whole.
func TestReadCut(t *testing.T) {
	for _, k := range knowns() {
		code := unhex(t, k.code)
		for start := 0; start < len(code); start += 1 + int(code[start]) {
			for cut := start; cut <= start+int(code[start]); cut++ {
				checkRead(t, code[:cut], api.Vec{}, start, api.ErrShort)
			}
		}
	}
}

// TestReadNumber: promise 6.3, a number of elements beyond 8 or not as it must be is an error at its start, whatever follows.
func TestReadNumber(t *testing.T) {
	for _, c := range []struct {
		number string
		e      api.Errno
	}{
		{"01 09", api.ErrRange},
		{"01 0A", api.ErrRange},
		{"01 FF", api.ErrRange},
		{"02 01 00", api.ErrRange},
		{"02 01 01", api.ErrRange},
		{"05 01 00 00 00 01", api.ErrRange},
		{"08 80 00 00 00 00 00 00 01", api.ErrRange},
		{"08 FF FF FF FF FF FF FF FF", api.ErrRange},
		{"09", api.ErrField},
		{"FF", api.ErrField},
		{"01 00", api.ErrField},
		{"02 00 01", api.ErrField},
	} {
		for _, rest := range []string{"", "00", "09", strings.Repeat("01 01 ", 9), strings.Repeat("00", 9)} {
			checkRead(t, unhex(t, c.number+rest), api.Vec{}, 0, c.e)
		}
	}
}

// TestReadElement: promise 6.3, an element beyond MaxCount or not as it must be is an error at its start, whichever element it is and whatever follows.
func TestReadElement(t *testing.T) {
	for _, c := range []struct {
		element string
		e       api.Errno
	}{
		{"03 10 00 01", api.ErrRange},
		{"03 10 01 00", api.ErrRange},
		{"04 01 00 00 01", api.ErrRange},
		{"04 FF FF FF FF", api.ErrRange},
		{"05 01 00 00 00 01", api.ErrRange},
		{"08 FF FF FF FF FF FF FF FF", api.ErrRange},
		{"09", api.ErrField},
		{"FF", api.ErrField},
		{"01 00", api.ErrField},
		{"02 00 01", api.ErrField},
		{"03 00 FF FF", api.ErrField},
	} {
		for n := 1; n <= api.MaxOrigins; n++ {
			for i := range n {
				before := octet.Num(uint64(n)) + strings.Repeat("\x01\x07", i)
				for _, behind := range []string{"\x01\x07", "\x00", "\x09", ""} {
					code := before + unhex(t, c.element) + strings.Repeat(behind, n-1-i)
					checkRead(t, code, api.Vec{}, len(before), c.e)
				}
			}
		}
	}
}

// TestReadLastZero: promise 6.3, a last element of 0 is an error behind all of them, whatever the others are and whatever follows.
func TestReadLastZero(t *testing.T) {
	for n := 1; n <= api.MaxOrigins; n++ {
		for _, other := range []string{"\x00", "\x01\x01", "\x03\x10\x00\x00"} {
			code := octet.Num(uint64(n)) + strings.Repeat(other, n-1) + "\x00"
			for _, rest := range []string{"", "\x00", "\x09", "\x01\x01"} {
				checkRead(t, code+rest, api.Vec{}, len(code), api.ErrField)
			}
		}
	}
}

// TestReadAfterError: promise 6.3, of a reader that already has an error nothing is decoded, and the error stays.
func TestReadAfterError(t *testing.T) {
	for _, code := range []string{"", "00", "01 01 01 07", "01 02 00 01 01", "01 01 00", "01 09", "01 01 03 10 00 01", "09"} {
		for _, e := range []api.Errno{api.ErrKind, api.ErrRange, api.ErrField, api.ErrCommand, -1} {
			r := octet.New("\x01\x05" + unhex(t, code))
			r.Num()
			r.Fail(e)
			for range 2 {
				if v := vec.Read(r); v != (api.Vec{}) {
					t.Errorf("Read of a reader with an error: %v; want the zero vector", v)
				}
				checkAt(t, "a reader with an error", r, 2, e)
			}
		}
	}
}

// TestReadNone: P1, Read ends on a nil Reader and on a zero one.
func TestReadNone(t *testing.T) {
	for _, r := range []*octet.Reader{nil, {}} {
		if v := vec.Read(r); v != (api.Vec{}) {
			t.Errorf("Read without bytes: %v; want the zero vector", v)
		}
	}
}

// TestReadSeveral: promise 6.3, vectors one behind the other, up to the end.
func TestReadSeveral(t *testing.T) {
	var code strings.Builder
	for _, k := range knowns() {
		code.WriteString(vec.Write(k.v))
	}
	r := octet.New(code.String())
	for _, k := range knowns() {
		if v := vec.Read(r); v != k.v {
			t.Errorf("Read: %v; want %v", v, k.v)
		}
	}
	if err := r.End(); err != nil {
		t.Errorf("End: %v", err)
	}
}
