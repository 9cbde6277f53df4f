package frame_test

import (
	"encoding/binary"
	"errors"
	"hash/crc32"
	"math/big"
	"slices"
	"strings"
	"testing"

	"selkie/api"
	"selkie/frame"
	"selkie/octet"
)

// mixed is n bytes that look random and are the same for the same n and seed.
func mixed(n int, seed uint32) string {
	b := make([]byte, n)
	x := seed*2654435761 + 1
	for i := range b {
		x ^= x << 13
		x ^= x >> 17
		x ^= x << 5
		b[i] = byte(x >> 11)
	}
	return string(b)
}

// sealed is bytes and their checksum, as the library has it.
func sealed(body string) string {
	return string(binary.LittleEndian.AppendUint32([]byte(body), crc32.ChecksumIEEE([]byte(body))))
}

// samples are frames of all kinds, and with Loads of many lengths and contents.
func samples() []frame.Frame {
	var out []frame.Frame
	for kind := 1; kind <= 99; kind++ {
		out = append(out, frame.Frame{Kind: kind}, frame.Frame{Kind: kind, Load: mixed(kind, 1)})
	}
	for n := range 40 {
		kind := 1 + n*5%99
		out = append(out, frame.Frame{Kind: kind, Load: strings.Repeat("\x00", n)}, frame.Frame{Kind: kind, Load: strings.Repeat("\xff", n)})
	}
	for _, n := range []int{253, 254, 255, 256, 257, 511, 512, 1000, 4095, 4096} {
		out = append(out, frame.Frame{Kind: 1 + n%99, Load: mixed(n, uint32(n))})
	}
	// Loads that are or contain encodings.
	inner := sealed("\x01\x01\x01\x02ab")
	return append(out, frame.Frame{Kind: 1, Load: inner}, frame.Frame{Kind: 99, Load: inner + inner}, frame.Frame{Kind: 1, Load: inner[:9]})
}

// write is the encoding of a frame that has one.
func write(t *testing.T, f frame.Frame) string {
	t.Helper()
	s, err := frame.Write(f)
	if err != nil {
		t.Fatalf("Write of %s: %v", told(f), err)
	}
	return s
}

// TestWriteAgain: promise 4.1, the encoding is what the definition says, with the library's checksums.
func TestWriteAgain(t *testing.T) {
	for _, f := range samples() {
		want := sealed(octet.Num(uint64(f.Kind)) + octet.Text(f.Load))
		if got := write(t, f); got != want {
			t.Errorf("Write of %s: %s, %d bytes; want %s, %d", told(f), shown(got), len(got), shown(want), len(want))
		}
	}
}

// TestBack: promise 4.3, Next decodes the encoding of a frame to that frame, whatever follows.
func TestBack(t *testing.T) {
	after := []string{"", "\x00", "\x01", "\xff\xff\xff\xff", mixed(9, 3), sealed("\x01\x01\x00")}
	for _, f := range samples() {
		code := write(t, f)
		for _, rest := range after {
			got, n, err := frame.Next(code + rest)
			if got != f || n != len(code) || err != nil {
				t.Errorf("Next of %s and %s: %s, %d, %v; want %d", told(f), shown(rest), told(got), n, err, len(code))
			}
		}
		if got, err := frame.Read(code); got != f || err != nil {
			t.Errorf("Read of %s: %s, %v", told(f), told(got), err)
		}
	}
}

// TestDistinct: promise 4.3, no two frames share an encoding, and none starts with that of another.
func TestDistinct(t *testing.T) {
	l := samples()
	slices.SortFunc(l, func(a, b frame.Frame) int {
		return strings.Compare(write(t, a), write(t, b))
	})
	l = slices.Compact(l)
	for i := range l[1:] {
		if strings.HasPrefix(write(t, l[i+1]), write(t, l[i])) {
			t.Errorf("the encoding of %s starts with that of %s", told(l[i+1]), told(l[i]))
		}
	}
}

// integer is what chapter 2 says of decoding an unsigned integer up to most at the start of s: its value, the number of its bytes, the error.
func integer(s string, most int64) (int, int, api.Errno) {
	if s == "" {
		return 0, 0, api.ErrShort
	}
	n := int(s[0])
	if n > 8 {
		return 0, 0, api.ErrField
	}
	if len(s) < 1+n {
		return 0, 0, api.ErrShort
	}
	if n > 0 && s[1] == 0 {
		return 0, 0, api.ErrField
	}
	v := new(big.Int).SetBytes([]byte(s[1 : 1+n]))
	if v.Cmp(big.NewInt(most)) > 0 {
		return 0, 0, api.ErrRange
	}
	return int(v.Int64()), 1 + n, api.OK
}

// result is what decoding a frame comes to: the frame and the length of its encoding, or an error and its offset.
type result struct {
	f  frame.Frame
	n  int
	at int
	e  api.Errno
}

// expected is what the chapter says of decoding the frame at the start of s.
func expected(s string) result {
	kind, a, e := integer(s, 99)
	if e != api.OK {
		return result{at: 0, e: e}
	}
	if kind == 0 {
		return result{at: 0, e: api.ErrKind}
	}
	length, b, e := integer(s[a:], 4096)
	if e != api.OK {
		return result{at: a, e: e}
	}
	end := a + b + length
	if end > len(s) {
		return result{at: a, e: api.ErrShort}
	}
	if end+4 > len(s) {
		return result{at: end, e: api.ErrShort}
	}
	if s[:end+4] != sealed(s[:end]) {
		return result{at: end, e: api.ErrSum}
	}
	return result{f: frame.Frame{Kind: kind, Load: s[a+b : end]}, n: end + 4}
}

// checkExpected holds what Next and Read say of s, and that a frame's encoding is the bytes that it was decoded from.
func checkExpected(t *testing.T, s string) {
	t.Helper()
	want := expected(s)
	if want.e != api.OK {
		checkNot(t, s, want.at, want.e)
		return
	}
	f, n, err := frame.Next(s)
	if f != want.f || n != want.n || err != nil {
		t.Errorf("Next of %s: %s, %d, %v; want %s, %d", shown(s), told(f), n, err, told(want.f), want.n)
		return
	}
	if write(t, f) != s[:n] {
		t.Errorf("%s, decoded from %s, is encoded as %s", told(f), shown(s[:n]), shown(write(t, f)))
	}
	f, err = frame.Read(s)
	if n < len(s) {
		checkFault(t, "Read of "+shown(s), err, n, api.ErrMore)
		want.f = frame.Frame{}
	}
	if f != want.f || n == len(s) && err != nil {
		t.Errorf("Read of %s: %s, %v; want %s", shown(s), told(f), err, told(want.f))
	}
}

// bytesOfInterest are those that make a difference in a Kind or a length.
const bytesOfInterest = "\x00\x01\x02\x08\x09\x10\x63\x64\xff"

// short is the strings of up to n of these bytes.
func short(n int) []string {
	out := []string{""}
	for from := 0; n > 0; n-- {
		to := len(out)
		for _, s := range out[from:to] {
			for _, b := range []byte(bytesOfInterest) {
				out = append(out, s+string([]byte{b}))
			}
		}
		from = to
	}
	return out
}

// TestNextShort: promises 4.1 and 4.3, all short strings of telling bytes, alone, with their checksum, and with bytes behind it.
func TestNextShort(t *testing.T) {
	frames := 0
	for _, s := range short(5) {
		checkExpected(t, s)
		checkExpected(t, sealed(s))
		checkExpected(t, sealed(s)+"\x01")
		checkExpected(t, s+"\x00\x00\x00\x00")
		if expected(sealed(s)).e == api.OK {
			frames++
		}
	}
	if frames < 20 {
		t.Errorf("only %d of these are frames, too few to tell anything", frames)
	}
}

// TestNextLengths: promises 4.1 and 4.3, a length written in each number of bytes, with as many bytes behind it as it says or not.
func TestNextLengths(t *testing.T) {
	for _, n := range []int{0, 1, 2, 255, 256, 4095, 4096, 4097, 5000} {
		for width := range 9 {
			var b [8]byte
			binary.BigEndian.PutUint64(b[:], uint64(n))
			length := string([]byte{byte(width)}) + string(b[8-width:])
			for _, have := range []int{n - 1, n, n + 1} {
				if have < 0 {
					continue
				}
				body := "\x01\x05" + length + mixed(have, 1)
				checkExpected(t, body)
				checkExpected(t, sealed(body))
			}
		}
	}
}

// TestNextChanged: promises 4.1 and 4.3, encodings of which one byte is changed to each other value, left out, or put in.
func TestNextChanged(t *testing.T) {
	for _, f := range []frame.Frame{{Kind: 1, Load: "ab"}, {Kind: 99}, {Kind: 7, Load: sealed("\x01\x01\x00")}} {
		code := write(t, f)
		for at := range code {
			checkExpected(t, code[:at]+code[at+1:])
			for v := range 256 {
				one := string([]byte{byte(v)})
				checkExpected(t, code[:at]+one+code[at+1:])
				checkExpected(t, code[:at]+one+code[at:])
			}
		}
	}
}

// TestNextMixed: promises 4.1 and P1, bytes of no sense, also behind a Kind and a length.
func TestNextMixed(t *testing.T) {
	for i := range uint32(20000) {
		s := mixed(int(i%50), i)
		checkExpected(t, s)
		checkExpected(t, "\x01\x01"+s)
		checkExpected(t, "\x01\x01\x01\x05"+s)
	}
}

// checkAll holds what All says of s: frames as Next decodes them one after the other, and where that fails, how.
func checkAll(t *testing.T, s string) {
	t.Helper()
	var want []frame.Frame
	at := 0
	next := result{}
	for at < len(s) && next.e == api.OK {
		next = expected(s[at:])
		if next.e == api.OK {
			want = append(want, next.f)
			at += next.n
		}
	}
	l, n, err := frame.All(s)
	if !slices.Equal(l, want) || n != at {
		t.Errorf("All of %s: %s, %d; want %s, %d", shown(s), told(l...), n, told(want...), at)
	}
	if next.e == api.OK {
		if err != nil {
			t.Errorf("All of %s: %v; want no error", shown(s), err)
		}
	} else {
		checkNested(t, "All of "+shown(s), err, at, next.at, next.e)
	}
	if frame.Torn(err) != (next.e == api.ErrShort) {
		t.Errorf("Torn of %v: %v", err, frame.Torn(err))
	}
	again := ""
	for _, f := range l {
		again += write(t, f)
	}
	if again != s[:n] {
		t.Errorf("the frames of All of %s, encoded anew, are %d bytes, %s; want these %d bytes", shown(s), len(again), shown(again), n)
	}
}

// TestAllAgain: promises 4.2 and 4.3, frames one after the other, and bytes that are none behind them, or between them.
func TestAllAgain(t *testing.T) {
	s := ""
	for _, f := range samples() {
		s += write(t, f)
	}
	checkAll(t, s)
	for _, tail := range append(short(2), mixed(50, 2), "\x01\x05\x01\x02ab1234", "\x01\x05\x01\x02ab") {
		checkAll(t, tail)
		checkAll(t, s+tail)
		checkAll(t, s[:7]+tail+s[7:])
	}
}

// TestAllChanged: promises 4.2 and 4.3, four frames of which one byte is changed, or that are cut off.
func TestAllChanged(t *testing.T) {
	s := sealed("\x01\x01\x01\x02ab") + sealed("\x01\x63\x00") + sealed("\x01\x05\x01\x01\x00") + sealed("\x01\x01\x00")
	for at := range s {
		checkAll(t, s[:at])
		for _, v := range []byte{s[at] + 1, s[at] - 1, s[at] ^ 0x80, 0, 1, 0xff} {
			checkAll(t, s[:at]+string([]byte{v})+s[at+1:])
		}
	}
}

// TestAllShort: promises 4.2 and 4.3, all short strings of telling bytes, each with its checksum, twice and behind a frame.
func TestAllShort(t *testing.T) {
	first := sealed("\x01\x01\x00")
	for _, s := range short(4) {
		checkAll(t, sealed(s)+sealed(s))
		checkAll(t, first+sealed(s)+s)
	}
}

// TestOwn: results are shared with nothing: what a caller writes into a list or a Fault does not come back.
func TestOwn(t *testing.T) {
	s := sealed("\x01\x01\x00") + sealed("\x01\x02\x00")
	l, _, _ := frame.All(s)
	l[0], l[1] = frame.Frame{Kind: 9}, frame.Frame{}
	checkAll(t, s)
	for range 2 {
		_, _, err := frame.All("\x00")
		checkNested(t, "All of 00", err, 0, 0, api.ErrKind)
		var f *api.Fault
		for errors.As(err, &f) {
			err = f.Err
			f.At, f.Err = 5, api.OK
		}
	}
}
