package dots_test

import (
	"encoding/hex"
	"slices"
	"strings"
	"testing"

	"selkie/api"
	"selkie/dots"
	"selkie/ident"
	"selkie/octet"
)

// coded is a set, written as the Texts of its ids, and the digits of its encoding.
type coded struct {
	l    string
	code string
}

// codes are the empty set, ordinary ones, and such of the least and the greatest ids.
func codes() []coded {
	return []coded{
		{"", "00"},
		{"0.1", "01 01 00 01 01"},
		{"2.300", "01 01 01 02 02 01 2C"},
		{"1.3 1.4 1.6 2.1", "01 04 01 01 01 03 01 01 01 04 01 01 01 06 01 02 01 01"},
		{"0.9 1.7 7.1", "01 03 00 01 09 01 01 01 07 01 07 01 01"},
		{"0.1 0.1048576 7.1048575 7.1048576", "01 04 00 01 01 00 03 10 00 00 01 07 03 0F FF FF 01 07 03 10 00 00"},
		{"3.255 3.256 3.65535 3.65536", "01 04 01 03 01 FF 01 03 02 01 00 01 03 02 FF FF 01 03 03 01 00 00"},
	}
}

// unhex is the bytes of hexadecimal digits, which spaces may separate.
func unhex(t *testing.T, digits string) string {
	t.Helper()
	b, err := hex.DecodeString(strings.ReplaceAll(digits, " ", ""))
	if err != nil {
		t.Fatal(err)
	}
	return string(b)
}

// encoded is the bytes of a number and of these ids, which need not be a set, nor as many.
func encoded(n int, l []api.Id) string {
	var code strings.Builder
	code.WriteString(octet.Num(uint64(n)))
	for _, id := range l {
		code.WriteString(octet.Num(uint64(id.Origin)) + octet.Num(uint64(id.Seq)))
	}
	return code.String()
}

// TestWrite: promise 7.3, Write of sets.
func TestWrite(t *testing.T) {
	for _, c := range codes() {
		l, kept := lend(t, ids(t, c.l))
		if got, e := dots.Write(l); got != unhex(t, c.code) || e != api.OK {
			t.Errorf("Write of %s: % X, error %d; want %s", c.l, got, e, c.code)
		}
		kept()
	}
	for _, k := range wholes(t) {
		if got, e := dots.Write(k.l); got != encoded(len(k.l), k.l) || e != api.OK {
			t.Errorf("Write of %s: % X, error %d", k.name, got, e)
		}
	}
}

// TestWriteErrors: promise 7.3, Write of a list that is no set.
func TestWriteErrors(t *testing.T) {
	for _, bad := range faulty(t) {
		l, kept := lend(t, bad.l)
		if got, e := dots.Write(l); got != "" || e != bad.e {
			t.Errorf("Write of %s: % X, error %d; want error %d", bad.name, got, e, bad.e)
		}
		kept()
	}
}

// checkAt holds the reader's offset, and its error: a Fault at this offset, of this number, or none if e is OK.
func checkAt(t *testing.T, name string, r *octet.Reader, at int, e api.Errno) {
	t.Helper()
	if r.At() != at {
		t.Errorf("%s: offset %d; want %d", name, r.At(), at)
	}
	if e == api.OK {
		if r.Err() != nil {
			t.Errorf("%s: %v; want no error", name, r.Err())
		}
		return
	}
	f, ok := r.Err().(*api.Fault)
	if !ok || f == nil || f.At != at || f.Err != error(e) {
		t.Errorf("%s: %v; want error %d at %d", name, r.Err(), e, at)
	}
}

// checkRead holds that the bytes are decoded to want, or to an empty set beside an error, and where; whatever is before them moves the offset.
func checkRead(t *testing.T, code string, want []api.Id, at int, e api.Errno) {
	t.Helper()
	for _, before := range []string{"", "\x00", "\x01\x07\x00\x02\x01\x2c"} {
		r := octet.New(before + code)
		for r.At() < len(before) {
			r.Num()
		}
		name := "Read of " + hex.EncodeToString([]byte(code))
		if got := dots.Read(r); !slices.Equal(got, want) {
			t.Errorf("%s: %v; want %v", name, got, want)
		}
		checkAt(t, name, r, len(before)+at, e)
	}
}

// TestRead: promise 7.3, Read goes on where the reader is, and ends behind the set, whatever follows.
func TestRead(t *testing.T) {
	for _, c := range codes() {
		code := unhex(t, c.code)
		for _, rest := range []string{"", "\x00", "\x09", "\x01\x01", "\xff\xff", code} {
			checkRead(t, code+rest, ids(t, c.l), len(code), api.OK)
		}
	}
	for _, n := range []int{63, 64} {
		code := encoded(n, row(n))
		checkRead(t, code, row(n), len(code), api.OK)
		checkRead(t, code+"\x01\x01", row(n), len(code), api.OK)
	}
}

// TestReadCut: promise 7.3, a set that is cut off at every place: the error is at the start of the integer that is not whole.
func TestReadCut(t *testing.T) {
	whole := []string{encoded(64, row(64))}
	for _, c := range codes() {
		whole = append(whole, unhex(t, c.code))
	}
	for _, code := range whole {
		for start := 0; start < len(code); start += 1 + int(code[start]) {
			for cut := start; cut <= start+int(code[start]); cut++ {
				checkRead(t, code[:cut], nil, start, api.ErrShort)
			}
		}
	}
}

// TestReadNumber: promise 7.3, a number beyond 64 or not as it must be is an error at its start, whatever follows.
func TestReadNumber(t *testing.T) {
	for _, c := range []struct {
		number string
		e      api.Errno
	}{
		{"01 41", api.ErrRange},
		{"01 42", api.ErrRange},
		{"01 80", api.ErrRange},
		{"01 FF", api.ErrRange},
		{"02 01 00", api.ErrRange},
		{"02 01 01", api.ErrRange},
		{"05 01 00 00 00 01", api.ErrRange},
		{"08 80 00 00 00 00 00 00 01", api.ErrRange},
		{"08 FF FF FF FF FF FF FF FF", api.ErrRange},
		{"09", api.ErrField},
		{"FF", api.ErrField},
		{"01 00", api.ErrField},
		{"02 00 01", api.ErrField},
	} {
		for _, rest := range []string{"", "\x00", "\x09", encoded(1, row(1)), encoded(65, row(65))[2:]} {
			checkRead(t, unhex(t, c.number)+rest, nil, 0, c.e)
		}
	}
}

// TestReadId: promise 7.3, an id that is not valid or not as it must be is ident.Read's error, at each place of a set, whatever follows.
func TestReadId(t *testing.T) {
	for _, c := range []struct {
		id string
		at int
		e  api.Errno
	}{
		{"01 08 01 01", 0, api.ErrRange},
		{"01 FF 01 01", 0, api.ErrRange},
		{"02 01 00 01 01", 0, api.ErrRange},
		{"08 FF FF FF FF FF FF FF FF 01 01", 0, api.ErrRange},
		{"09 01 01", 0, api.ErrField},
		{"01 00 01 01", 0, api.ErrField},
		{"01 07 00", 3, api.ErrRange},
		{"00 00", 2, api.ErrRange},
		{"01 07 03 10 00 01", 2, api.ErrRange},
		{"01 07 04 FF FF FF FF", 2, api.ErrRange},
		{"01 07 08 FF FF FF FF FF FF FF FF", 2, api.ErrRange},
		{"01 07 09", 2, api.ErrField},
		{"01 07 01 00", 2, api.ErrField},
		{"01 07 02 00 FF", 2, api.ErrField},
	} {
		for _, n := range []int{1, 2, 3, 64} {
			for _, i := range []int{0, n / 2, n - 1} {
				before := encoded(n, row(n)[:i])
				for _, behind := range []string{encoded(n, row(n)[i+1:])[2:], encoded(n, backwards(row(n))[i+1:])[2:], "\x00", "\x09", ""} {
					checkRead(t, before+unhex(t, c.id)+behind, nil, len(before)+c.at, c.e)
				}
			}
		}
	}
}

// TestReadOrder: promise 7.3, ids that are not strictly increasing are an error behind all of them, whatever follows.
func TestReadOrder(t *testing.T) {
	for _, bad := range faulty(t) {
		if bad.e != api.ErrField {
			continue
		}
		code := encoded(len(bad.l), bad.l)
		for _, rest := range []string{"", "\x00", "\x09", "\x01\x01", "\x01\x07\x01\x07"} {
			checkRead(t, code+rest, nil, len(code), api.ErrField)
		}
		// What is cut off or not valid behind them comes first.
		longer := encoded(len(bad.l)+1, bad.l)
		if len(bad.l) < api.MaxDots {
			checkRead(t, longer, nil, len(longer), api.ErrShort)
			checkRead(t, longer+"\x01\x07\x00", nil, len(longer)+3, api.ErrRange)
			checkRead(t, longer+"\x01\x08\x01\x01", nil, len(longer), api.ErrRange)
		}
		checkRead(t, code[:len(code)-1], nil, lastInteger(code), api.ErrShort)
	}
}

// lastInteger is the offset of the last of the integers that bytes are.
func lastInteger(code string) int {
	at := 0
	for next := 0; next < len(code); next += 1 + int(code[next]) {
		at = next
	}
	return at
}

// TestReadAfterError: promise 7.3, of a reader that already has an error nothing is decoded, and the error stays.
func TestReadAfterError(t *testing.T) {
	for _, code := range []string{"", "00", "01 01 00 01 01", "01 02 00 01 01 00 01 01", "01 02 00 01 01", "01 01 00 00", "01 41", "09"} {
		for _, e := range []api.Errno{api.ErrKind, api.ErrRange, api.ErrField, api.ErrCommand, -1} {
			r := octet.New("\x01\x05" + unhex(t, code))
			r.Num()
			r.Fail(e)
			for range 2 {
				if l := dots.Read(r); len(l) != 0 {
					t.Errorf("Read of a reader with an error: %v; want an empty set", l)
				}
				checkAt(t, "a reader with an error", r, 2, e)
			}
		}
	}
}

// TestReadNone: P1, Read ends on a nil Reader and on a zero one.
func TestReadNone(t *testing.T) {
	for _, r := range []*octet.Reader{nil, {}} {
		if l := dots.Read(r); len(l) != 0 {
			t.Errorf("Read: %v; want an empty set", l)
		}
	}
	var r octet.Reader
	dots.Read(&r)
	checkAt(t, "a zero reader", &r, 0, api.ErrShort)
}

// TestReadSeveral: promise 7.3, sets one behind the other, up to the end; none of them shares memory with another one.
func TestReadSeveral(t *testing.T) {
	var code strings.Builder
	for _, c := range codes() {
		code.WriteString(unhex(t, c.code))
	}
	r := octet.New(code.String())
	var all [][]api.Id
	for range codes() {
		all = append(all, dots.Read(r))
	}
	if err := r.End(); err != nil {
		t.Errorf("End: %v", err)
	}
	for i, c := range codes() {
		checkSet(t, "Read", all[i], api.OK, ids(t, c.l), api.OK)
	}
}

// TestReadAsIdent: promise 7.3, each id is encoded as ident.Write does it.
func TestReadAsIdent(t *testing.T) {
	for _, k := range wholes(t) {
		code := octet.Num(uint64(len(k.l)))
		for _, id := range k.l {
			code += ident.Write(id)
		}
		checkRead(t, code, k.l, len(code), api.OK)
		if got, e := dots.Write(k.l); got != code || e != api.OK {
			t.Errorf("Write of %s: % X, error %d; want % X", k.name, got, e, code)
		}
	}
}
