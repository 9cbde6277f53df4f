package octet_test

import (
	"encoding/hex"
	"errors"
	"math"
	"strings"
	"testing"
	"unsafe"

	"selkie/api"
	"selkie/octet"
)

// method is one of the decoding methods, with its argument: it decodes once, and its result is as an encoding.
type method struct {
	name string
	most int
	call func(r *octet.Reader, most int) string
}

func (m method) read(r *octet.Reader) string { return m.call(r, m.most) }

// nothing is what each method returns, encoded, together with an error.
const nothing = "\x00"

func methods(most int) []method {
	return []method{
		{"Num", most, func(r *octet.Reader, _ int) string { return octet.Num(r.Num()) }},
		{"Int", most, func(r *octet.Reader, most int) string { return octet.Num(uint64(r.Int(most))) }},
		{"Signed", most, func(r *octet.Reader, _ int) string { return octet.Signed(r.Signed()) }},
		{"Text", most, func(r *octet.Reader, most int) string { return octet.Text(r.Text(most)) }},
	}
}

// checkAt holds the reader's offset and the number of bytes from there on.
func checkAt(t *testing.T, name string, r *octet.Reader, at, left int) {
	t.Helper()
	if r.At() != at || r.Left() != left {
		t.Errorf("%s: offset %d, %d bytes left; want %d, %d", name, r.At(), r.Left(), at, left)
	}
}

// checkErr holds an error: a decoding error at this offset, or none if e is OK.
func checkErr(t *testing.T, name string, err error, at int, e api.Errno) {
	t.Helper()
	if e == api.OK {
		if err != nil {
			t.Errorf("%s: %v; want no error", name, err)
		}
		return
	}
	f, ok := err.(*api.Fault)
	if !ok || f == nil || f.At != at || f.Err != error(e) {
		t.Errorf("%s: %v; want error %d at %d", name, err, e, at)
	}
}

// TestNew: promises 2.2 and 2.3, a reader starts at offset 0 without an error, and readers of one string are independent.
func TestNew(t *testing.T) {
	for _, s := range []string{"", "\x00", "\x09", "abc"} {
		r, other := octet.New(s), octet.New(s)
		checkAt(t, "New", r, 0, len(s))
		checkErr(t, "New", r.Err(), 0, api.OK)
		r.Num()
		r.Fail(api.ErrState)
		checkAt(t, "another reader", other, 0, len(s))
		checkErr(t, "another reader", other.Err(), 0, api.OK)
	}
}

// TestReadNum: promise 2.2, Num and Int.
func TestReadNum(t *testing.T) {
	for _, n := range numbers() {
		code := unhex(t, n.code)
		r := octet.New(code)
		if got := r.Num(); got != n.v {
			t.Errorf("Num of %s: %d; want %d", n.code, got, n.v)
		}
		checkAt(t, "Num of "+n.code, r, len(code), 0)
		checkErr(t, "Num of "+n.code, r.Err(), 0, api.OK)
		if n.v > math.MaxInt {
			continue
		}
		for _, most := range []int{int(n.v), math.MaxInt} {
			r = octet.New(code + code)
			if got := r.Int(most); got != int(n.v) {
				t.Errorf("Int(%d) of %s: %d; want %d", most, n.code, got, n.v)
			}
			checkAt(t, "Int of "+n.code, r, len(code), len(code))
			checkErr(t, "Int of "+n.code, r.Err(), 0, api.OK)
		}
	}
}

// TestReadSigned: promise 2.2, Signed.
func TestReadSigned(t *testing.T) {
	for _, n := range signedNumbers() {
		code := unhex(t, n.code)
		r := octet.New(code + "\x09")
		if got := r.Signed(); got != n.v {
			t.Errorf("Signed of %s: %d; want %d", n.code, got, n.v)
		}
		checkAt(t, "Signed of "+n.code, r, len(code), 1)
		checkErr(t, "Signed of "+n.code, r.Err(), 0, api.OK)
	}
}

// TestReadText: promise 2.2, Text.
func TestReadText(t *testing.T) {
	for s, length := range texts() {
		code := unhex(t, length) + s
		for _, most := range []int{len(s), len(s) + 1, math.MaxInt} {
			r := octet.New(code + "rest")
			if got := r.Text(most); got != s {
				t.Errorf("Text(%d) of %d bytes: %.20q; want %.20q", most, len(s), got, s)
			}
			checkAt(t, "Text", r, len(code), 4)
			checkErr(t, "Text", r.Err(), 0, api.OK)
		}
	}
}

// TestReadSeveral: promise 2.2, each method goes on where the one before it has ended.
func TestReadSeveral(t *testing.T) {
	r := octet.New(unhex(t, "02 01 2C  01 01  01 02 61 62  00  01 07  00  00"))
	if n := r.Num(); n != 300 {
		t.Errorf("Num: %d; want 300", n)
	}
	checkAt(t, "after Num", r, 3, 11)
	if n := r.Signed(); n != -1 {
		t.Errorf("Signed: %d; want -1", n)
	}
	checkAt(t, "after Signed", r, 5, 9)
	if s := r.Text(2); s != "ab" {
		t.Errorf("Text: %q; want ab", s)
	}
	checkAt(t, "after Text", r, 9, 5)
	if s := r.Text(0); s != "" {
		t.Errorf("Text: %q; want it empty", s)
	}
	if n := r.Int(7); n != 7 {
		t.Errorf("Int: %d; want 7", n)
	}
	checkAt(t, "after Int", r, 12, 2)
	if n := r.Int(0); n != 0 {
		t.Errorf("Int: %d; want 0", n)
	}
	if n := r.Signed(); n != 0 {
		t.Errorf("Signed: %d; want 0", n)
	}
	checkAt(t, "at the end", r, 14, 0)
	checkErr(t, "End", r.End(), 0, api.OK)
}

// checkFailure holds that the method fails with e at the start of the encoding, at offset 0 and behind other encodings.
func checkFailure(t *testing.T, m method, code string, e api.Errno) {
	t.Helper()
	for _, before := range []int{0, 1, 5} {
		r := octet.New(strings.Repeat("\x01\x09", before) + code)
		for range before {
			r.Num()
		}
		if got := m.read(r); got != nothing {
			t.Errorf("%s(%d) of % X: % X; want nothing", m.name, m.most, code, got)
		}
		name := m.name + " of " + hex.EncodeToString([]byte(code))
		checkAt(t, name, r, 2*before, len(code))
		checkErr(t, name, r.Err(), 2*before, e)
	}
}

// TestReadErrors: promise 2.2, what is wrong with an integer comes in the same order for all methods, whatever most is.
func TestReadErrors(t *testing.T) {
	for _, c := range []struct {
		code string
		err  api.Errno
	}{
		{"", api.ErrShort},
		{"09", api.ErrField},
		{"0A", api.ErrField},
		{"FF", api.ErrField},
		{"09 01 02 03 04 05 06 07 08 09", api.ErrField},
		{"80 01", api.ErrField},
		{"01", api.ErrShort},
		{"02 01", api.ErrShort},
		{"02 09", api.ErrShort},
		{"07 01 02 03 04 05 06", api.ErrShort},
		{"08 01 02 03 04 05 06 07", api.ErrShort},
		{"08", api.ErrShort},
		// Too few bytes come before a most significant byte of 0.
		{"02 00", api.ErrShort},
		{"08 00 00 00 00 00 00 00", api.ErrShort},
		{"01 00", api.ErrField},
		{"02 00 01", api.ErrField},
		{"02 00 00", api.ErrField},
		{"03 00 01 02", api.ErrField},
		{"08 00 FF FF FF FF FF FF FF", api.ErrField},
		{"01 00 01 00", api.ErrField},
	} {
		// These errors come before that of an integer greater than most, and of a negative most.
		for _, most := range []int{math.MinInt, -1, 0, 1, math.MaxInt} {
			for _, m := range methods(most) {
				checkFailure(t, m, unhex(t, c.code), c.err)
			}
		}
	}
}

// TestReadMost: promise 2.2, an integer, or a length, greater than most, or a negative most.
func TestReadMost(t *testing.T) {
	for _, c := range []struct {
		code string
		most int
	}{
		{"00", -1},
		{"00", math.MinInt},
		{"01 01", -1},
		{"01 01", 0},
		{"01 08", 7},
		{"01 FF", 254},
		{"02 01 00", 255},
		{"02 01 2C", 299},
		{"02 01 2C", -300},
		{"08 7F FF FF FF FF FF FF FF", math.MaxInt - 1},
		{"08 7F FF FF FF FF FF FF FF", -1},
		{"08 80 00 00 00 00 00 00 00", math.MaxInt},
		{"08 80 00 00 00 00 00 00 00", math.MinInt},
		{"08 FF FF FF FF FF FF FF FF", math.MaxInt},
		{"08 FF FF FF FF FF FF FF FF", -1},
		{"08 FF FF FF FF FF FF FF FF", 0},
	} {
		code := unhex(t, c.code)
		for _, m := range methods(c.most) {
			if m.name == "Int" || m.name == "Text" {
				checkFailure(t, m, code, api.ErrRange)
				checkFailure(t, m, code+strings.Repeat("x", 400), api.ErrRange)
				continue
			}
			r := octet.New(code)
			m.read(r)
			checkAt(t, m.name+" of "+c.code, r, len(code), 0)
			checkErr(t, m.name+" of "+c.code, r.End(), 0, api.OK)
		}
	}
}

// TestReadTextShort: promise 2.2, a string that is shorter than its length says; a length greater than most comes before that.
func TestReadTextShort(t *testing.T) {
	for _, c := range []struct {
		code string
		most int
		err  api.Errno
	}{
		{"01 01", 1, api.ErrShort},
		{"01 03 61 62", 3, api.ErrShort},
		{"01 03 61 62", 12, api.ErrShort},
		{"01 03 61 62", 2, api.ErrRange},
		{"01 03 61 62", -1, api.ErrRange},
		{"01 FF 61", 255, api.ErrShort},
		{"01 FF 61", 254, api.ErrRange},
		{"02 01 00 61", 4096, api.ErrShort},
		{"08 7F FF FF FF FF FF FF FF 61", math.MaxInt, api.ErrShort},
		{"08 7F FF FF FF FF FF FF FF", math.MaxInt, api.ErrShort},
		{"08 80 00 00 00 00 00 00 00 61", math.MaxInt, api.ErrRange},
		{"08 FF FF FF FF FF FF FF FF 61", math.MaxInt, api.ErrRange},
		{"08 FF FF FF FF FF FF FF FF 61", 0, api.ErrRange},
	} {
		checkFailure(t, methods(c.most)[3], unhex(t, c.code), c.err)
	}
	checkFailure(t, methods(300)[3], octet.Text(strings.Repeat("x", 300))[:302], api.ErrShort)
}

// TestReadAfterError: promise 2.2, a reader that has an error decodes nothing more, and keeps its first error.
func TestReadAfterError(t *testing.T) {
	for _, bad := range []string{"01 00", "01 07", "09", "02 01"} {
		for _, m := range methods(math.MaxInt) {
			code := "\x01\x05" + unhex(t, bad)
			r := octet.New(code)
			r.Num()
			r.Int(6)
			before := r.Err()
			if before == nil {
				t.Fatalf("Int(6) of %s: no error", bad)
			}
			for range 2 {
				if got := m.read(r); got != nothing {
					t.Errorf("%s after an error: % X; want nothing", m.name, got)
				}
				checkAt(t, m.name+" after an error", r, 2, len(code)-2)
				if err := r.Err(); err == nil || err.Error() != before.Error() {
					t.Errorf("%s after an error: %v; want %v", m.name, err, before)
				}
			}
		}
	}
}

// TestReadAfterFail: promises 2.2 and 2.3, after Fail no method decodes what is valid or reports what is not.
func TestReadAfterFail(t *testing.T) {
	for _, code := range []string{"", "00", "01 01 61", "02 01 2C", "09", "01", "01 00"} {
		for _, m := range methods(-1) {
			r := octet.New(unhex(t, code))
			r.Fail(api.ErrKind)
			if got := m.read(r); got != nothing {
				t.Errorf("%s of %s after Fail: % X; want nothing", m.name, code, got)
			}
			checkAt(t, m.name, r, 0, len(unhex(t, code)))
			checkErr(t, m.name, r.Err(), 0, api.ErrKind)
			checkErr(t, m.name, r.End(), 0, api.ErrKind)
		}
	}
}

// TestFail: promise 2.3, Fail keeps the first error, at the offset that it had then; OK is none.
func TestFail(t *testing.T) {
	for _, e := range []api.Errno{api.ErrShort, api.ErrClash, api.ErrCommand, -1, math.MinInt, math.MaxInt} {
		r := octet.New("\x01\x05\x00")
		r.Fail(api.OK)
		checkErr(t, "Fail(OK)", r.Err(), 0, api.OK)
		if n := r.Num(); n != 5 {
			t.Errorf("Num after Fail(OK): %d; want 5", n)
		}
		r.Fail(e)
		checkErr(t, "Fail", r.Err(), 2, e)
		checkAt(t, "Fail", r, 2, 1)
		for _, other := range []api.Errno{api.OK, api.ErrField, e, -e} {
			r.Fail(other)
			checkErr(t, "Fail twice", r.Err(), 2, e)
		}
	}
}

// TestFailAfterDecoding: promise 2.3, a decoding error stays when Fail is called, and Fail works at the end, too.
func TestFailAfterDecoding(t *testing.T) {
	r := octet.New("\x00\x09")
	r.Num()
	r.Num()
	r.Fail(api.ErrRange)
	checkErr(t, "Fail after a decoding error", r.Err(), 1, api.ErrField)
	r = octet.New("\x00")
	r.Num()
	checkErr(t, "End before Fail", r.End(), 0, api.OK)
	r.Fail(api.ErrRange)
	checkErr(t, "Fail at the end", r.End(), 1, api.ErrRange)
}

// TestEnd: promise 2.3, bytes that are left are an error, which stays; without them there is none.
func TestEnd(t *testing.T) {
	checkErr(t, "End of nothing", octet.New("").End(), 0, api.OK)
	checkErr(t, "End with a byte left", octet.New("\x00").End(), 0, api.ErrMore)
	r := octet.New("\x01\x05\x01\x06\x00")
	checkErr(t, "Err with bytes left", r.Err(), 0, api.OK)
	r.Num()
	checkErr(t, "Err with bytes left", r.Err(), 0, api.OK)
	for range 2 {
		checkErr(t, "End with bytes left", r.End(), 2, api.ErrMore)
		checkErr(t, "Err after End", r.Err(), 2, api.ErrMore)
	}
	for _, m := range methods(math.MaxInt) {
		if got := m.read(r); got != nothing {
			t.Errorf("%s after End: % X; want nothing", m.name, got)
		}
	}
	checkAt(t, "End", r, 2, 3)
}

// TestEndAfterError: promise 2.3, End returns the first error, with bytes left and without.
func TestEndAfterError(t *testing.T) {
	r := octet.New("\x09\x00\x00")
	r.Num()
	checkErr(t, "End with an error and bytes left", r.End(), 0, api.ErrField)
	r = octet.New("\x00")
	r.Num()
	r.Num()
	checkErr(t, "End with an error at the end", r.End(), 1, api.ErrShort)
}

// TestErrIs: promise 2.3, the error is found in the Fault, and the Fault that is returned is the caller's own.
func TestErrIs(t *testing.T) {
	r := octet.New("\x00\x02")
	r.Num()
	r.Num()
	if err := r.Err(); !errors.Is(err, api.ErrShort) || errors.Is(err, api.ErrField) || err.Error() != "1: error 1" {
		t.Errorf("Err: %v; want 1: error 1", err)
	}
	for _, get := range []func() error{r.Err, r.End} {
		var f *api.Fault
		if !errors.As(get(), &f) {
			t.Fatal("no Fault")
		}
		f.At, f.Err = 7, nil
		checkErr(t, "after writing into the Fault", get(), 1, api.ErrShort)
	}
}

// TestTextOwn: the string that Text returns shares no memory with the one that was passed to New.
func TestTextOwn(t *testing.T) {
	code := octet.Text("abc")
	s := octet.New(code).Text(3)
	if s != "abc" || unsafe.StringData(s) == unsafe.StringData(code[2:]) {
		t.Errorf("Text: %q, with the bytes of the reader's string", s)
	}
}

// TestNilReader: P1, the methods end on a nil and on a zero Reader, as on one of the empty string.
func TestNilReader(t *testing.T) {
	for _, r := range []*octet.Reader{nil, {}} {
		for _, m := range methods(9) {
			if got := m.read(r); got != nothing {
				t.Errorf("%s without bytes: % X; want nothing", m.name, got)
			}
		}
		r.Fail(api.OK)
		r.Fail(api.ErrField)
		checkAt(t, "without bytes", r, 0, 0)
		e := api.ErrShort
		if r == nil {
			e = api.OK
		}
		checkErr(t, "without bytes", r.Err(), 0, e)
		checkErr(t, "without bytes", r.End(), 0, e)
	}
}
