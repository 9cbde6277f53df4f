package lamp_test

import (
	"strconv"
	"strings"
	"testing"

	"selkie/api"
	"selkie/lamp"
	"selkie/octet"
)

// TestWrite: promise 9.1, Write, which is empty if the stamp is not valid.
func TestWrite(t *testing.T) {
	for _, k := range knowns() {
		if got := lamp.Write(k.s); got != k.code {
			t.Errorf("Write(%v): % X; want % X", k.s, got, k.code)
		}
	}
	for _, s := range invalid() {
		if got := lamp.Write(s); got != "" {
			t.Errorf("Write(%v): % X; want it empty", s, got)
		}
	}
}

// checkReader holds the reader's offset, and its error: a Fault at this offset, of this number, or none if e is OK.
func checkReader(t *testing.T, name string, r *octet.Reader, at int, e api.Errno) {
	t.Helper()
	err := r.Err()
	f, fault := err.(*api.Fault)
	switch {
	case r.At() != at:
		t.Errorf("%s: offset %d; want %d", name, r.At(), at)
	case e == api.OK && err != nil:
		t.Errorf("%s: %v; want no error", name, err)
	case e != api.OK && (!fault || f == nil || f.At != at || f.Err != error(e)):
		t.Errorf("%s: %v; want error %d at %d", name, err, e, at)
	}
}

// checkRead holds what code is decoded to, and where the reader is then; whatever is before code moves the offset.
func checkRead(t *testing.T, code string, want api.Stamp, at int, e api.Errno) {
	t.Helper()
	for _, before := range []string{"", "\x00", "\x01\x07\x00\x02\x01\x2c"} {
		r := octet.New(before + code)
		for r.At() < len(before) {
			r.Num()
		}
		name := "Read of " + strconv.QuoteToASCII(code)
		if got := lamp.Read(r); got != want {
			t.Errorf("%s: %v; want %v", name, got, want)
		}
		checkReader(t, name, r, len(before)+at, e)
	}
}

// rests are bytes that may follow an encoding.
func rests() []string {
	return []string{"", "\x00", "\x09", "\xff\xff", "\x01\x01", "\x01\x08\x01\x02"}
}

// TestRead: promise 9.1, Read goes on where the reader is, and ends behind the stamp, whatever follows.
func TestRead(t *testing.T) {
	for _, k := range knowns() {
		for _, rest := range rests() {
			checkRead(t, k.code+rest, k.s, len(k.code), api.OK)
		}
	}
}

// TestReadCut: promise 9.1, a stamp that is cut off at every place: the error is at the start of the number that is not whole.
func TestReadCut(t *testing.T) {
	for _, k := range knowns() {
		origin := 1 + int(k.code[0]) // where the Origin starts
		for cut := range k.code {
			at := 0
			if cut >= origin {
				at = origin
			}
			checkRead(t, k.code[:cut], api.Stamp{}, at, api.ErrShort)
		}
	}
}

// badNumber is a number that is not as it must be, and the error.
type badNumber struct {
	code string
	e    api.Errno
}

// malformed are no encodings of an integer, but for the bytes that follow.
func malformed() []badNumber {
	return []badNumber{
		{"\x09", api.ErrField},
		{"\x0a", api.ErrField},
		{"\xff", api.ErrField},
		{"\x01\x00", api.ErrField},
		{"\x02\x00\x01", api.ErrField},
		{"\x03\x00\x10\x00", api.ErrField},
		{"\x08\x00\xff\xff\xff\xff\xff\xff\xff", api.ErrField},
	}
}

// tooGreat are integers that are neither counts nor origins.
func tooGreat() []badNumber {
	return []badNumber{
		{"\x03\x10\x00\x01", api.ErrRange},
		{"\x03\x10\x01\x00", api.ErrRange},
		{"\x03\x20\x00\x00", api.ErrRange},
		{"\x04\x01\x00\x00\x01", api.ErrRange},
		{"\x04\xff\xff\xff\xff", api.ErrRange},
		{"\x05\x01\x00\x00\x00\x00", api.ErrRange},
		{"\x05\x01\x00\x00\x00\x01", api.ErrRange},
		{"\x08\x80\x00\x00\x00\x00\x00\x00\x01", api.ErrRange},
		{"\x08\xff\xff\xff\xff\xff\xff\xff\xff", api.ErrRange},
	}
}

// TestReadTime: promise 9.1, a Time above MaxCount, or one not as it must be, is an error at its start, whatever follows.
func TestReadTime(t *testing.T) {
	for _, bad := range append(malformed(), tooGreat()...) {
		for _, rest := range append(rests(), "\x01\x07", "\x01\x08", "\x01\x00", "\x01") {
			checkRead(t, bad.code+rest, api.Stamp{}, 0, bad.e)
		}
	}
}

// TestReadOrigin: promise 9.1, an Origin above 7, or one not as it must be, is an error at its start, whatever the Time is and whatever follows.
func TestReadOrigin(t *testing.T) {
	origins := []badNumber{
		{"\x01\x08", api.ErrRange},
		{"\x01\x09", api.ErrRange},
		{"\x01\xff", api.ErrRange},
		{"\x02\x01\x00", api.ErrRange},
		{"\x02\x01\x07", api.ErrRange},
		{"\x03\x10\x00\x00", api.ErrRange},
	}
	origins = append(origins, malformed()...)
	for _, bad := range append(origins, tooGreat()...) {
		for _, time := range []string{"\x00", "\x01\x01", "\x02\x01\x2c", "\x03\x10\x00\x00"} {
			for _, rest := range rests() {
				checkRead(t, time+bad.code+rest, api.Stamp{}, len(time), bad.e)
			}
		}
	}
}

// TestReadAfterError: promise 9.1, of a reader that already has an error nothing is decoded, and the error stays.
func TestReadAfterError(t *testing.T) {
	for _, code := range []string{"", "\x00\x00", "\x01\x08\x01\x02", "\x03\x10\x00\x01\x00", "\x01\x08\x01\x08", "\x09", "\x01"} {
		for _, e := range []api.Errno{api.ErrShort, api.ErrRange, api.ErrField, api.ErrKind, api.ErrCommand, -1} {
			r := octet.New("\x01\x05" + code)
			r.Num()
			r.Fail(e)
			for range 2 {
				if s := lamp.Read(r); s != (api.Stamp{}) {
					t.Errorf("Read of a reader with an error: %v; want the zero stamp", s)
				}
				checkReader(t, "a reader with an error", r, 2, e)
			}
		}
	}
}

// TestReadNone: P1, Read ends on a nil Reader and on a zero one.
func TestReadNone(t *testing.T) {
	for _, r := range []*octet.Reader{nil, {}} {
		if s := lamp.Read(r); s != (api.Stamp{}) {
			t.Errorf("Read without bytes: %v; want the zero stamp", s)
		}
	}
}

// TestReadSeveral: promise 9.1, stamps one behind the other, up to the end.
func TestReadSeveral(t *testing.T) {
	var code strings.Builder
	for _, k := range knowns() {
		code.WriteString(lamp.Write(k.s))
	}
	r := octet.New(code.String())
	for _, k := range knowns() {
		if s := lamp.Read(r); s != k.s {
			t.Errorf("Read: %v; want %v", s, k.s)
		}
	}
	if err := r.End(); err != nil {
		t.Errorf("End: %v", err)
	}
}

// TestBack: promise 9.1, Read of each Write gives the stamp again, and uses all bytes up.
func TestBack(t *testing.T) {
	for origin := range api.MaxOrigins {
		t.Run(strconv.Itoa(origin), func(t *testing.T) {
			t.Parallel()
			for time := range uint32(maxCount + 1) {
				s := api.Stamp{Time: time, Origin: origin}
				r := octet.New(lamp.Write(s))
				if got := lamp.Read(r); got != s || r.End() != nil {
					t.Fatalf("Read of Write of %v, % X: %v, %v", s, lamp.Write(s), got, r.End())
				}
			}
		})
	}
}

// short are the strings of up to n of these bytes.
func short(bytes string, n int) []string {
	out := []string{""}
	for from := 0; n > 0; n-- {
		to := len(out)
		for _, s := range out[from:to] {
			for i := range len(bytes) {
				out = append(out, s+bytes[i:i+1])
			}
		}
		from = to
	}
	return out
}

// TestReadShortStrings: promise 9.1, all short strings of telling bytes: none but what Write returns is decoded.
func TestReadShortStrings(t *testing.T) {
	whole := 0
	for _, s := range short("\x00\x01\x02\x03\x07\x08\x09\x10", 6) {
		r := octet.New(s)
		got := lamp.Read(r)
		if r.Err() == nil && lamp.Write(got) != s[:r.At()] || r.Err() != nil && got != (api.Stamp{}) {
			t.Errorf("% X is decoded to %v, which is encoded as % X, beside %v", s, got, lamp.Write(got), r.Err())
		}
		if r.End() == nil {
			whole++
		}
	}
	// Times of no byte, one, two and three, the last of them MaxCount; Origins of no byte and of one.
	if want := (1 + 7 + 7*8 + 6*8*8 + 1) * (1 + 4); whole != want {
		t.Errorf("%d of these are stamps; want %d", whole, want)
	}
}
