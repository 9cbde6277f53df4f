package frame_test

import (
	"encoding/hex"
	"errors"
	"fmt"
	"math"
	"slices"
	"strings"
	"testing"

	"selkie/api"
	"selkie/frame"
	"selkie/sum"
)

// unhex is the bytes of hexadecimal digits, which spaces may separate.
func unhex(t *testing.T, digits string) string {
	t.Helper()
	b, err := hex.DecodeString(strings.ReplaceAll(digits, " ", ""))
	if err != nil {
		t.Fatal(err)
	}
	return string(b)
}

// known is a frame, and what its encoding has before and behind its Load.
type known struct {
	f      frame.Frame
	before string
	behind string
}

// knowns are the chapter's example, the least and the greatest Kind and Load, and others. Their checksums come from another program.
func knowns() []known {
	return []known{
		{frame.Frame{Kind: 1, Load: "ab"}, "01 01 01 02", "2F B2 9C 23"},
		{frame.Frame{Kind: 1}, "01 01 00", "64 82 98 E7"},
		{frame.Frame{Kind: 99}, "01 63 00", "41 8B 53 B0"},
		{frame.Frame{Kind: 2, Load: "\x00"}, "01 02 01 01", "50 4D 92 49"},
		{frame.Frame{Kind: 42, Load: "\x00\xff\xc3\x28\n"}, "01 2A 01 05", "28 8D 1A 9F"},
		{frame.Frame{Kind: 99, Load: strings.Repeat("x", 255)}, "01 63 01 FF", "69 80 B7 39"},
		{frame.Frame{Kind: 1, Load: strings.Repeat("y", 256)}, "01 01 02 01 00", "9A 6C E0 2F"},
		{frame.Frame{Kind: 99, Load: strings.Repeat("z", 4096)}, "01 63 02 10 00", "44 85 C6 57"},
		{frame.Frame{Kind: 7, Load: strings.Repeat("\x00", 4096)}, "01 07 02 10 00", "9C D2 ED E9"},
	}
}

// code is the encoding of the frame.
func (k known) code(t *testing.T) string {
	t.Helper()
	return unhex(t, k.before) + k.f.Load + unhex(t, k.behind)
}

// ab is the encoding of the chapter's example.
func ab(t *testing.T) string {
	t.Helper()
	return knowns()[0].code(t)
}

// checkFault holds an error: a Fault at this offset, of this number.
func checkFault(t *testing.T, name string, err error, at int, e api.Errno) {
	t.Helper()
	f, ok := err.(*api.Fault)
	if !ok || f == nil || f.At != at || f.Err != error(e) {
		t.Errorf("%s: %v; want error %d at %d", name, err, e, at)
	}
}

// checkNot holds that Next and Read fail with this error, beside which their results are zero values.
func checkNot(t *testing.T, s string, at int, e api.Errno) {
	t.Helper()
	f, n, err := frame.Next(s)
	checkFault(t, "Next of "+shown(s), err, at, e)
	if f != (frame.Frame{}) || n != 0 {
		t.Errorf("Next of %s: %s, %d beside %v; want zero values", shown(s), told(f), n, err)
	}
	f, err = frame.Read(s)
	checkFault(t, "Read of "+shown(s), err, at, e)
	if f != (frame.Frame{}) {
		t.Errorf("Read of %s: %s beside %v; want the zero value", shown(s), told(f), err)
	}
}

// shown is the first bytes of a string, as digits.
func shown(s string) string {
	return hex.EncodeToString([]byte(s[:min(len(s), 20)]))
}

// told is frames, with the first bytes of each Load.
func told(l ...frame.Frame) string {
	s := fmt.Sprintf("%d frames:", len(l))
	for _, f := range l[:min(len(l), 5)] {
		s += fmt.Sprintf(" (Kind %d, %d bytes: %s)", f.Kind, len(f.Load), shown(f.Load))
	}
	return s
}

// rests are bytes that may follow a frame.
func rests(t *testing.T) []string {
	return []string{"\x00", "\x01", "\xff", "\x01\x01", "\x00\x00\x00\x00", ab(t), ab(t)[:9], strings.Repeat("\xff", 5000)}
}

// TestWrite: promise 4.1, Write returns the encoding, also for Kind 1 and 99 and a Load of 0 and 4096 bytes.
func TestWrite(t *testing.T) {
	for _, k := range knowns() {
		got, err := frame.Write(k.f)
		if got != k.code(t) || err != nil {
			t.Errorf("Write of %s: %s, %d bytes, %v; want %s, the Load and %s", told(k.f), shown(got), len(got), err, k.before, k.behind)
		}
	}
}

// TestWriteErrors: promise 4.1, ErrKind, and behind it ErrLong; they are no decoding errors.
func TestWriteErrors(t *testing.T) {
	full := strings.Repeat("x", 4096)
	for _, w := range []struct {
		kind int
		load string
		want api.Errno
	}{
		{0, "", api.ErrKind},
		{0, "ab", api.ErrKind},
		{-1, "ab", api.ErrKind},
		{100, "ab", api.ErrKind},
		{100, full, api.ErrKind},
		{255, "", api.ErrKind},
		{256 + 1, "", api.ErrKind},
		{1<<32 + 1, "", api.ErrKind},
		{math.MaxInt, "", api.ErrKind},
		{math.MinInt, "", api.ErrKind},
		{math.MinInt + 1, "", api.ErrKind},
		{0, full + "x", api.ErrKind},
		{-1, full + "x", api.ErrKind},
		{100, full + "x", api.ErrKind},
		{1, full + "x", api.ErrLong},
		{99, full + "x", api.ErrLong},
		{50, full + full, api.ErrLong},
		{1, strings.Repeat("\x00", 1<<16), api.ErrLong},
	} {
		got, err := frame.Write(frame.Frame{Kind: w.kind, Load: w.load})
		if got != "" || err != error(w.want) {
			t.Errorf("Write of Kind %d, %d bytes: %s, %v; want nothing and error %d", w.kind, len(w.load), shown(got), err, w.want)
		}
	}
}

// TestNext: promise 4.1, Next returns the frame and its length, whatever follows.
func TestNext(t *testing.T) {
	for _, k := range knowns() {
		code := k.code(t)
		for _, rest := range append(rests(t), "") {
			f, n, err := frame.Next(code + rest)
			if f != k.f || n != len(code) || err != nil {
				t.Errorf("Next of %s and %s: %s, %d, %v; want %s, %d", shown(code), shown(rest), told(f), n, err, told(k.f), len(code))
			}
		}
	}
}

// TestNextErrors: promise 4.1, each error of Next and its offset. What follows the faulty part does not matter.
func TestNextErrors(t *testing.T) {
	for _, c := range []struct {
		digits string
		at     int
		want   api.Errno
	}{
		// The Kind.
		{"", 0, api.ErrShort},
		{"01", 0, api.ErrShort},
		{"02 01", 0, api.ErrShort},
		{"08 01 01 01 01 01 01 01", 0, api.ErrShort},
		{"09", 0, api.ErrField},
		{"FF", 0, api.ErrField},
		{"09 01 01 01 02 61 62", 0, api.ErrField},
		{"01 00", 0, api.ErrField},
		{"01 00 00", 0, api.ErrField},
		{"02 00 01 00", 0, api.ErrField},
		{"02 00 64", 0, api.ErrField},
		{"01 64", 0, api.ErrRange},
		{"01 64 00", 0, api.ErrRange},
		{"01 FF 09", 0, api.ErrRange},
		{"02 01 00", 0, api.ErrRange},
		{"02 01 01 00", 0, api.ErrRange},
		{"05 01 00 00 00 01 00", 0, api.ErrRange},
		{"08 FF FF FF FF FF FF FF FF", 0, api.ErrRange},
		{"08 80 00 00 00 00 00 00 01 00", 0, api.ErrRange},
		{"00", 0, api.ErrKind},
		{"00 00", 0, api.ErrKind},
		{"00 09", 0, api.ErrKind},
		{"00 01", 0, api.ErrKind},
		{"00 01 02 61 62", 0, api.ErrKind},
		// The Load.
		{"01 01", 2, api.ErrShort},
		{"01 63", 2, api.ErrShort},
		{"01 01 01", 2, api.ErrShort},
		{"01 01 02 10", 2, api.ErrShort},
		{"01 01 09", 2, api.ErrField},
		{"01 01 FF", 2, api.ErrField},
		{"01 01 01 00", 2, api.ErrField},
		{"01 01 01 00 61 62", 2, api.ErrField},
		{"01 01 02 00 02 61 62", 2, api.ErrField},
		{"01 01 02 00 FF", 2, api.ErrField},
		{"01 01 02 10 01", 2, api.ErrRange},
		{"01 01 02 FF FF", 2, api.ErrRange},
		{"01 01 03 01 00 00", 2, api.ErrRange},
		{"01 01 08 FF FF FF FF FF FF FF FF", 2, api.ErrRange},
		{"01 01 01 02", 2, api.ErrShort},
		{"01 01 01 02 61", 2, api.ErrShort},
		{"01 01 02 10 00", 2, api.ErrShort},
		{"01 01 02 10 00 61 62 63", 2, api.ErrShort},
		{"01 63 01 04 41 8B 53", 2, api.ErrShort},
		// The checksum.
		{"01 01 00", 3, api.ErrShort},
		{"01 01 00 64", 3, api.ErrShort},
		{"01 01 00 64 82 98", 3, api.ErrShort},
		{"01 01 00 00 00 00", 3, api.ErrShort},
		{"01 01 01 02 61 62", 6, api.ErrShort},
		{"01 01 01 02 61 62 2F B2 9C", 6, api.ErrShort},
		{"01 01 00 64 82 98 E6", 3, api.ErrSum},
		{"01 01 00 00 00 00 00", 3, api.ErrSum},
		{"01 01 00 FF FF FF FF", 3, api.ErrSum},
		{"01 01 00 E7 98 82 64", 3, api.ErrSum},
		{"01 02 00 64 82 98 E7", 3, api.ErrSum},
		{"01 63 00 64 82 98 E7", 3, api.ErrSum},
		{"01 01 01 02 61 62 2F B2 9C 22", 6, api.ErrSum},
		{"01 01 01 02 61 62 2E B2 9C 23", 6, api.ErrSum},
		{"01 01 01 02 61 63 2F B2 9C 23", 6, api.ErrSum},
		{"01 01 01 02 62 61 2F B2 9C 23", 6, api.ErrSum},
		{"01 01 01 02 61 62 23 9C B2 2F", 6, api.ErrSum},
		{"01 01 01 01 61 62 2F B2 9C 23", 5, api.ErrSum},
		{"01 01 01 02 61 62 00 00 00 00 2F B2 9C 23", 6, api.ErrSum},
	} {
		checkNot(t, unhex(t, c.digits), c.at, c.want)
	}
}

// TestNextSealed: promise 4.1, a wrong Kind or length is an error whatever the checksum.
func TestNextSealed(t *testing.T) {
	long := strings.Repeat("x", 4097)
	for _, c := range []struct {
		body string
		at   int
		want api.Errno
	}{
		{unhex(t, "00 00"), 0, api.ErrKind},
		{unhex(t, "00 01 02 61 62"), 0, api.ErrKind},
		{unhex(t, "01 00 01 02 61 62"), 0, api.ErrField},
		{unhex(t, "01 64 01 02 61 62"), 0, api.ErrRange},
		{unhex(t, "02 00 01 01 02 61 62"), 0, api.ErrField},
		{unhex(t, "03 00 00 01 01 02 61 62"), 0, api.ErrField},
		{unhex(t, "01 01 01 00"), 2, api.ErrField},
		{unhex(t, "01 01 02 00 02 61 62"), 2, api.ErrField},
		{unhex(t, "01 01 02 10 01") + long, 2, api.ErrRange},
		{unhex(t, "01 01 03 00 10 00") + long[:4096], 2, api.ErrField},
		{unhex(t, "01 01 01 07 61 62"), 2, api.ErrShort},
	} {
		checkNot(t, sum.Seal(c.body), c.at, c.want)
	}
	// These are encodings, so that the ones above fail for no other reason.
	for _, body := range []string{
		unhex(t, "01 01 00"), unhex(t, "01 63 01 02 61 62"), unhex(t, "01 01 01 06 61 62"+"00 00 00 00"),
		unhex(t, "01 01 02 10 00") + long[:4096],
	} {
		if _, n, err := frame.Next(sum.Seal(body)); n != len(body)+4 || err != nil {
			t.Errorf("Next of %s, sealed: %d, %v; want %d", shown(body), n, err, len(body)+4)
		}
	}
}

// start is the offset of the part of an encoding, which has n bytes before its Load, that a cut at an offset leaves short.
func start(n, load, cut int) int {
	switch {
	case cut < 2:
		return 0
	case cut < n+load:
		return 2
	}
	return n + load
}

// TestNextCut: promise 4.1, a frame that is cut off, at every place.
func TestNextCut(t *testing.T) {
	for _, k := range knowns() {
		code := k.code(t)
		n := len(unhex(t, k.before))
		for cut := range code {
			checkNot(t, code[:cut], start(n, len(k.f.Load), cut), api.ErrShort)
			if _, _, err := frame.Next(code[:cut]); !frame.Torn(err) {
				t.Errorf("Torn of %v: false; want true", err)
			}
		}
	}
}

// TestNextSum: promise 4.1, a wrong checksum: each bit of it, and each bit of the Load.
func TestNextSum(t *testing.T) {
	for _, k := range knowns()[:7] {
		code := k.code(t)
		n := len(unhex(t, k.before))
		for at := n; at < len(code); at++ {
			for bit := range 8 {
				b := []byte(code)
				b[at] ^= 1 << bit
				checkNot(t, string(b), len(code)-4, api.ErrSum)
			}
		}
	}
}

// TestRead: promise 4.2, Read returns the frame if nothing follows.
func TestRead(t *testing.T) {
	for _, k := range knowns() {
		f, err := frame.Read(k.code(t))
		if f != k.f || err != nil {
			t.Errorf("Read of %s: %s, %v; want %s", shown(k.code(t)), told(f), err, told(k.f))
		}
	}
}

// TestReadMore: promise 4.2, ErrMore at the offset after the frame if bytes follow.
func TestReadMore(t *testing.T) {
	for _, k := range knowns() {
		code := k.code(t)
		for _, rest := range rests(t) {
			f, err := frame.Read(code + rest)
			checkFault(t, "Read of "+shown(code)+" and "+shown(rest), err, len(code), api.ErrMore)
			if f != (frame.Frame{}) {
				t.Errorf("Read of %s and %s: %s beside the error; want the zero value", shown(code), shown(rest), told(f))
			}
		}
	}
	// The error of Next comes first.
	wrong := []byte(ab(t) + ab(t))
	wrong[9]++
	_, err := frame.Read(string(wrong))
	checkFault(t, "Read of a wrong checksum and more", err, 6, api.ErrSum)
}

// TestAll: promise 4.2, All returns the frames that a string consists of, and its length.
func TestAll(t *testing.T) {
	var want []frame.Frame
	s := ""
	for _, k := range append(knowns(), knowns()...) {
		l, n, err := frame.All(s)
		if !slices.Equal(l, want) || n != len(s) || err != nil {
			t.Errorf("All of %s: %s, %d, %v; want %d bytes", told(want...), told(l...), n, err, len(s))
		}
		want = append(want, k.f)
		s += k.code(t)
	}
	for _, k := range knowns() {
		l, n, err := frame.All(k.code(t))
		if !slices.Equal(l, []frame.Frame{k.f}) || n != len(k.code(t)) || err != nil {
			t.Errorf("All of %s: %s, %d, %v; want one frame, %d", shown(k.code(t)), told(l...), n, err, len(k.code(t)))
		}
	}
	if l, n, err := frame.All(""); len(l) != 0 || n != 0 || err != nil {
		t.Errorf("All of nothing: %s, %d, %v; want no frame, 0 and no error", told(l...), n, err)
	}
}

// checkNested holds the error of All: a Fault at one offset whose Err is a Fault at another, of this number.
func checkNested(t *testing.T, name string, err error, outer, inner int, e api.Errno) {
	t.Helper()
	f, ok := err.(*api.Fault)
	if !ok || f == nil || f.At != outer {
		t.Errorf("%s: %v; want a fault at %d", name, err, outer)
		return
	}
	checkFault(t, name+", within the frame", f.Err, inner, e)
}

// TestAllErrors: promise 4.2, All with a faulty frame: the frames before it, their length, and where in it the error is.
func TestAllErrors(t *testing.T) {
	two := ab(t) + knowns()[2].code(t)
	frames := []frame.Frame{{Kind: 1, Load: "ab"}, {Kind: 99}}
	for _, c := range []struct {
		digits string
		at     int
		want   api.Errno
	}{
		{"01", 0, api.ErrShort},
		{"09", 0, api.ErrField},
		{"02 00 01", 0, api.ErrField},
		{"01 64", 0, api.ErrRange},
		{"00", 0, api.ErrKind},
		{"00 00 00 00 00 00", 0, api.ErrKind},
		{"01 01", 2, api.ErrShort},
		{"01 01 01 02 61", 2, api.ErrShort},
		{"01 01 01 00 61", 2, api.ErrField},
		{"01 01 02 10 01", 2, api.ErrRange},
		{"01 01 01 02 61 62", 6, api.ErrShort},
		{"01 01 01 02 61 62 2F B2 9C", 6, api.ErrShort},
		{"01 01 01 02 61 62 2F B2 9C 24", 6, api.ErrSum},
		{"01 01 00 64 82 98 E8", 3, api.ErrSum},
	} {
		bad := unhex(t, c.digits)
		for _, rest := range []string{"", ab(t)} {
			if c.want == api.ErrShort && rest != "" {
				continue // What follows a frame that is cut off would belong to it.
			}
			l, n, err := frame.All(bad + rest)
			checkNested(t, "All of "+c.digits, err, 0, c.at, c.want)
			if len(l) != 0 || n != 0 {
				t.Errorf("All of %s: %s, %d; want no frame and 0", c.digits, told(l...), n)
			}
			l, n, err = frame.All(two + bad + rest)
			checkNested(t, "All of two frames and "+c.digits, err, len(two), c.at, c.want)
			if !slices.Equal(l, frames) || n != len(two) {
				t.Errorf("All of two frames and %s: %s, %d; want %s, %d", c.digits, told(l...), n, told(frames...), len(two))
			}
			if got := frame.Torn(err); got != (c.want == api.ErrShort) {
				t.Errorf("Torn of %v: %v", err, got)
			}
		}
	}
}

// TestAllCut: promise 4.2, three frames that are cut off at every place: the last whole frame ends All's results.
func TestAllCut(t *testing.T) {
	frames := []frame.Frame{{Kind: 1, Load: "ab"}, {Kind: 99}, {Kind: 42, Load: "\x00\xff\xc3\x28\n"}}
	codes := []string{ab(t), knowns()[2].code(t), knowns()[4].code(t)}
	s, at := strings.Join(codes, ""), 0
	for i, code := range codes {
		for cut := range code {
			l, n, err := frame.All(s[:at+cut])
			if !slices.Equal(l, frames[:i]) || n != at {
				t.Errorf("All of %d bytes: %s, %d; want %d frames, %d", at+cut, told(l...), n, i, at)
			}
			if cut == 0 {
				if err != nil {
					t.Errorf("All of %d bytes: %v; want no error", at, err)
				}
				continue
			}
			before := len(code) - 4 - len(frames[i].Load)
			checkNested(t, "All, cut off", err, at, start(before, len(frames[i].Load), cut), api.ErrShort)
		}
		at += len(code)
	}
}

// own is an error of the test's own that wraps another one, or several.
type own struct{ of []error }

func (o own) Error() string   { return "own" }
func (o own) Unwrap() []error { return o.of }

// TestTorn: promise 4.2, Torn is true of ErrShort and of what wraps it, at any depth, and of nothing else.
func TestTorn(t *testing.T) {
	deep := error(api.ErrShort)
	other := error(api.ErrSum)
	for i := range 1000 {
		deep = &api.Fault{At: i, Err: deep}
		other = &api.Fault{At: i, Err: other}
	}
	for _, err := range []error{
		api.ErrShort,
		&api.Fault{At: 0, Err: api.ErrShort},
		&api.Fault{At: 7, Err: &api.Fault{At: 2, Err: api.ErrShort}},
		deep,
		own{[]error{api.ErrShort}},
		own{[]error{nil, api.ErrSum, &api.Fault{At: -1, Err: api.ErrShort}}},
		errors.Join(api.ErrField, api.ErrShort),
	} {
		if !frame.Torn(err) {
			t.Errorf("Torn of %v: false; want true", err)
		}
	}
	for _, err := range []error{
		nil,
		api.OK, api.ErrRange, api.ErrField, api.ErrKind, api.ErrMore, api.ErrLong, api.ErrSum, api.ErrCommand,
		api.Errno(-1), api.Errno(1 + 1<<32),
		&api.Fault{},
		&api.Fault{At: 1},
		&api.Fault{At: 1, Err: api.OK},
		&api.Fault{At: 1, Err: api.ErrSum},
		&api.Fault{At: 1, Err: &api.Fault{At: 1, Err: api.ErrMore}},
		other,
		own{},
		own{[]error{nil, api.ErrSum}},
		errors.New("error 1"),
		errors.New(api.ErrShort.Error()),
	} {
		if frame.Torn(err) {
			t.Errorf("Torn of %v: true; want false", err)
		}
	}
}

// unruly is an error whose Unwrap panics.
type unruly struct{}

func (unruly) Error() string { return "unruly" }
func (unruly) Unwrap() error { panic("unruly") }

// TestTornPanics: promise P1, Torn does not panic, whatever it is given.
func TestTornPanics(t *testing.T) {
	var none *api.Fault
	for name, err := range map[string]error{
		"a nil Fault":                  none,
		"a Fault that wraps one":       &api.Fault{At: 1, Err: none},
		"an error that panics":         unruly{},
		"a Fault that wraps it":        &api.Fault{At: 1, Err: unruly{}},
		"an error that == cannot take": own{},
		"a Fault that wraps an own{}":  &api.Fault{At: 1, Err: own{}},
		"several of them":              own{[]error{own{}, none}},
	} {
		if frame.Torn(err) {
			t.Errorf("Torn of %s: true; want false", name)
		}
	}
}
