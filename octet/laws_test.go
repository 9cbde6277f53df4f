package octet_test

import (
	"cmp"
	"math"
	"math/big"
	"slices"
	"strings"
	"testing"

	"selkie/api"
	"selkie/octet"
)

// samples are the unsigned integers around each power of 2, and all small ones.
func samples() []uint64 {
	var out []uint64
	for v := range uint64(1000) {
		out = append(out, v)
	}
	for i := range 64 {
		for d := range uint64(5) {
			out = append(out, 1<<i+d-2, 3<<i+d, math.MaxUint64>>i-d)
		}
	}
	slices.Sort(out)
	return slices.Compact(out)
}

// after are the bytes that may follow an encoding.
func after() []string {
	return []string{"", "\x00", "\x09", "\xff\xff", "\x01", "\x02\x01\x2c", strings.Repeat("\x00", 20)}
}

// TestNumBack: promise 2.4, decoding an encoding returns the original, whatever follows.
func TestNumBack(t *testing.T) {
	for _, v := range samples() {
		for _, rest := range after() {
			r := octet.New(octet.Num(v) + rest)
			if got := r.Num(); got != v || r.Err() != nil || r.Left() != len(rest) {
				t.Errorf("Num(%d) decoded: %d, %v, %d bytes left; want %d left", v, got, r.Err(), r.Left(), len(rest))
			}
			signed := int64(v)
			r = octet.New(octet.Signed(signed) + rest)
			if got := r.Signed(); got != signed || r.Err() != nil || r.Left() != len(rest) {
				t.Errorf("Signed(%d) decoded: %d, %v, %d bytes left; want %d left", signed, got, r.Err(), r.Left(), len(rest))
			}
			if v > math.MaxInt {
				continue
			}
			r = octet.New(octet.Num(v) + rest)
			if got := r.Int(int(v)); got != int(v) || r.Err() != nil || r.Left() != len(rest) {
				t.Errorf("Num(%d) decoded by Int: %d, %v, %d bytes left; want %d left", v, got, r.Err(), r.Left(), len(rest))
			}
		}
	}
}

// TestTextBack: promise 2.4, for strings.
func TestTextBack(t *testing.T) {
	for n := range 600 {
		s := strings.Repeat(string([]byte{byte(n), byte(n >> 3)}), 300)[:n]
		for _, rest := range after() {
			r := octet.New(octet.Text(s) + rest)
			if got := r.Text(n); got != s || r.Err() != nil || r.Left() != len(rest) {
				t.Errorf("Text of %d bytes decoded: %.20q, %v, %d bytes left; want %d left", n, got, r.Err(), r.Left(), len(rest))
			}
		}
	}
}

// TestSignedFold: promise 2.1, the encoding of a signed integer is that of 2v or of -2v - 1, in integers without a bound.
func TestSignedFold(t *testing.T) {
	for _, n := range samples() {
		v := int64(n)
		folded := new(big.Int).Mul(big.NewInt(v), big.NewInt(2))
		if v < 0 {
			folded.Neg(folded).Sub(folded, big.NewInt(1))
		}
		if got := octet.Signed(v); !folded.IsUint64() || got != octet.Num(folded.Uint64()) {
			t.Errorf("Signed(%d): % X; want the encoding of %v", v, got, folded)
		}
	}
}

// TestOrder: promise 2.4, encodings are ordered like the integers.
func TestOrder(t *testing.T) {
	l := samples()
	for i, a := range l {
		for j, b := range l {
			if got := strings.Compare(octet.Num(a), octet.Num(b)); got != cmp.Compare(i, j) {
				t.Fatalf("Num(%d) and Num(%d): %d; want %d", a, b, got, cmp.Compare(i, j))
			}
		}
	}
}

// bytesOfInterest are those that make a difference in an encoding.
const bytesOfInterest = "\x00\x01\x02\x03\x08\x09\xff"

// all is the strings of up to n of these bytes.
func all(n int) []string {
	out := []string{""}
	for from := 0; n > 0; n-- {
		to := len(out)
		for _, s := range out[from:to] {
			for _, b := range []byte(bytesOfInterest) {
				out = append(out, s+string([]byte{b}))
			}
		}
		from = to
	}
	return out
}

// expected is what the chapter says of decoding an unsigned integer at the start of s: its value, the number of its bytes, the error.
func expected(s string) (uint64, int, api.Errno) {
	if s == "" {
		return 0, 0, api.ErrShort
	}
	n := int(s[0])
	if n > 8 {
		return 0, 0, api.ErrField
	}
	if len(s) < 1+n {
		return 0, 0, api.ErrShort
	}
	if n > 0 && s[1] == 0 {
		return 0, 0, api.ErrField
	}
	v := new(big.Int).SetBytes([]byte(s[1 : 1+n]))
	return v.Uint64(), 1 + n, api.OK
}

// expectedMost is that of an integer of at most most.
func expectedMost(s string, most int) (int, int, api.Errno) {
	v, n, e := expected(s)
	if e != api.OK {
		return 0, 0, e
	}
	if most < 0 || v > uint64(most) {
		return 0, 0, api.ErrRange
	}
	return int(v), n, api.OK
}

// expectedText is that of a string of at most most bytes.
func expectedText(s string, most int) (string, int, api.Errno) {
	length, n, e := expectedMost(s, most)
	if e != api.OK {
		return "", 0, e
	}
	if len(s)-n < length {
		return "", 0, api.ErrShort
	}
	return s[n : n+length], n + length, api.OK
}

// TestDecodeAll: promises 2.2 and 2.4 and P1: every method, on every short string of these bytes, behind another encoding, does what the chapter says.
func TestDecodeAll(t *testing.T) {
	const before = 2
	for _, s := range all(5) {
		fresh := func() *octet.Reader {
			r := octet.New("\x01\x05" + s)
			r.Num()
			return r
		}
		check := func(name string, r *octet.Reader, same bool, n int, e api.Errno) {
			t.Helper()
			if !same {
				t.Errorf("%s of % X: another value", name, s)
			}
			checkAt(t, name, r, before+n, len(s)-n)
			checkErr(t, name, r.Err(), before, e)
		}
		r := fresh()
		v, n, e := expected(s)
		check("Num", r, r.Num() == v, n, e)
		if e == api.OK && octet.Num(v) != s[:n] {
			t.Errorf("Num consumed % X, which is not the encoding of %d", s[:n], v)
		}
		r = fresh()
		signed := r.Signed()
		check("Signed", r, e != api.OK && signed == 0 || e == api.OK && octet.Signed(signed) == s[:n], n, e)
		for _, most := range []int{-1, 0, 1, 2, 3, 8, 255, 300, math.MaxInt} {
			r = fresh()
			i, n, e := expectedMost(s, most)
			check("Int", r, r.Int(most) == i, n, e)
			r = fresh()
			text, n, e := expectedText(s, most)
			check("Text", r, r.Text(most) == text, n, e)
		}
	}
}
