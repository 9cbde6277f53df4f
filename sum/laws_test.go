package sum_test

import (
	"hash/crc32"
	"strings"
	"testing"

	"selkie/sum"
)

// mixed is n bytes that look random and are the same for the same n and seed.
func mixed(n int, seed uint32) string {
	b := make([]byte, n)
	x := seed*2654435761 + 1
	for i := range b {
		x ^= x << 13
		x ^= x >> 17
		x ^= x << 5
		b[i] = byte(x >> 11)
	}
	return string(b)
}

// samples are strings of many lengths and contents, and all of one byte.
func samples() []string {
	out := []string{""}
	for b := range 256 {
		out = append(out, string([]byte{byte(b)}))
	}
	for n := range 70 {
		out = append(out, strings.Repeat("\x00", n), strings.Repeat("\xFF", n), mixed(n, uint32(n)+1))
	}
	return append(out, mixed(1000, 5), mixed(4096, 6), mixed(1<<16+1, 7))
}

// divided is the checksum as the chapter defines it, step by step on single bits, the least significant one first.
func divided(s string) uint32 {
	var c [32]bool
	for i := range c {
		c[i] = true
	}
	for _, b := range []byte(s) {
		for i := range 8 {
			c[i] = c[i] != (b>>i&1 == 1)
		}
		for range 8 {
			out := c[0]
			copy(c[:], c[1:])
			c[31] = false
			for i := range c {
				c[i] = c[i] != (out && uint32(0xEDB88320)>>i&1 == 1)
			}
		}
	}
	sum := uint32(0)
	for i := range c {
		if !c[i] {
			sum |= 1 << i
		}
	}
	return sum
}

// TestOfAgain: promise 3.1, Of is what the definitions say, and what the library says.
func TestOfAgain(t *testing.T) {
	for _, s := range samples() {
		want := divided(s)
		if library := crc32.ChecksumIEEE([]byte(s)); library != want {
			t.Fatalf("the test's own checksums of %.40q: %08X and %08X", s, want, library)
		}
		if got := sum.Of(s); got != want {
			t.Errorf("Of(%.40q), %d bytes: %08X; want %08X", s, len(s), got, want)
		}
	}
}

// TestMoreAgain: promise 3.1, More is what the library says, for sums with any bits.
func TestMoreAgain(t *testing.T) {
	sums := []uint32{0, 1<<32 - 1, 0xCBF43926, 0xEDB88320, ^uint32(0xEDB88320)}
	for i := range 32 {
		sums = append(sums, 1<<i, ^uint32(1<<i))
	}
	for _, s := range samples()[:400] {
		for _, v := range sums {
			want := crc32.Update(v, crc32.IEEETable, []byte(s))
			if got := sum.More(v, s); got != want {
				t.Errorf("More(%08X, %.40q): %08X; want %08X", v, s, got, want)
			}
		}
	}
}

// TestMoreParts: promise 3.2, a sum handed on to More in two parts of every length, and in many parts of each length.
func TestMoreParts(t *testing.T) {
	for _, s := range []string{"", "1", "123456789", mixed(257, 1), strings.Repeat("\x00", 40), strings.Repeat("\xFF", 40)} {
		want := sum.Of(s)
		for i := range len(s) + 1 {
			if got := sum.More(sum.Of(s[:i]), s[i:]); got != want {
				t.Errorf("%.40q in parts of %d and %d bytes: %08X; want %08X", s, i, len(s)-i, got, want)
			}
		}
		for n := 1; n <= len(s); n++ {
			got := sum.Of("")
			for at := 0; at < len(s); at += n {
				got = sum.More(got, s[at:min(at+n, len(s))])
			}
			if got != want {
				t.Errorf("%.40q in parts of %d bytes: %08X; want %08X", s, n, got, want)
			}
		}
	}
}

// TestMoreThree: promise 3.2, in three parts of every length, empty ones among them.
func TestMoreThree(t *testing.T) {
	s := mixed(24, 9)
	want := sum.Of(s)
	for i := range len(s) + 1 {
		for j := i; j <= len(s); j++ {
			if got := sum.More(sum.More(sum.Of(s[:i]), s[i:j]), s[j:]); got != want {
				t.Errorf("parts up to %d, %d and the end: %08X; want %08X", i, j, got, want)
			}
		}
	}
}

// TestBytesAgain: promise 3.1, each bit of a sum has its place in Bytes, and no other one.
func TestBytesAgain(t *testing.T) {
	for i := range 32 {
		for _, v := range []uint32{1 << i, ^uint32(1 << i)} {
			b := sum.Bytes(v)
			if len(b) != 4 {
				t.Fatalf("Bytes(%08X): %d bytes; want 4", v, len(b))
			}
			if got := uint32(b[0]) | uint32(b[1])<<8 | uint32(b[2])<<16 | uint32(b[3])<<24; got != v {
				t.Errorf("Bytes(%08X): % X, which is %08X", v, b, got)
			}
		}
	}
}

// TestEndsAgain: promise 3.1, Ends holds of what Seal returns, and of no part of it and nothing that differs in one bit.
func TestEndsAgain(t *testing.T) {
	for _, s := range samples()[:400] {
		sealed := sum.Seal(s)
		if len(sealed) != len(s)+4 || !strings.HasPrefix(sealed, s) || !sum.Ends(sealed) {
			t.Fatalf("Seal(% X): % X", s, sealed)
		}
		for i := range len(sealed) * 8 {
			b := []byte(sealed)
			b[i/8] ^= 1 << (i % 8)
			if sum.Ends(string(b)) {
				t.Errorf("Ends(% X): true; want false, % X with bit %d inverted", b, sealed, i)
			}
		}
	}
	sealed := sum.Seal(mixed(50, 3))
	for n := range sealed {
		if sum.Ends(sealed[:n]) || n > 0 && sum.Ends(sealed[n:]) {
			t.Errorf("Ends of the first %d bytes of % X or of the others: true; want false", n, sealed)
		}
	}
}

// changes are the ways in which four consecutive bytes may differ: in one, two or three bits, in any one or two bytes' low and high bits, in a run of bits, and in many others.
func changes() []uint32 {
	var out []uint32
	for i := range 32 {
		for j := range i + 1 {
			for k := range j + 1 {
				out = append(out, 1<<i|1<<j|1<<k)
			}
			out = append(out, 1<<i-1<<j|1<<i)
		}
	}
	for b := uint32(1); b < 256; b++ {
		out = append(out, b, b<<8, b<<16, b<<24, b|b<<24, b*0x01010101)
	}
	// What the polynomial's own bits hide if they are shifted out one too few or too many times.
	for i := range 32 {
		out = append(out, uint32(0xEDB88320)<<i, uint32(0xEDB88320)>>i, uint32(0xDB710641)<<i, uint32(0xDB710641)>>i, uint32(0x04C11DB7)<<i)
	}
	x := uint32(1)
	for range 2000 {
		x = x*1664525 + 1013904223
		out = append(out, x)
	}
	return out
}

// changed is s with a change of the four bytes from at on.
func changed(s string, at int, change uint32) string {
	b := []byte(s)
	for i := range 4 {
		b[at+i] ^= byte(change >> (8 * i))
	}
	return string(b)
}

// TestFourBytes: promise 3.2, strings that differ within four consecutive bytes have different checksums.
func TestFourBytes(t *testing.T) {
	for _, s := range []string{strings.Repeat("\x00", 4), "\xFF\xFF\xFF\xFF", "12345", mixed(9, 2), strings.Repeat("\x00", 12), mixed(40, 4)} {
		for at := range len(s) - 3 {
			for _, change := range changes() {
				if change == 0 {
					continue
				}
				other := changed(s, at, change)
				if sum.Of(s) == sum.Of(other) {
					t.Errorf("Of(% X) and Of(% X): both %08X", s, other, sum.Of(s))
				}
			}
		}
	}
}

// TestFourBytesRank: promise 3.2 for all changes at once. A checksum's difference is linear in the change's bits, so no change is lost if no combination of the single bits' differences is 0.
func TestFourBytesRank(t *testing.T) {
	for _, s := range []string{strings.Repeat("\x00", 4), mixed(5, 1), mixed(64, 2)} {
		for at := range len(s) - 3 {
			var rows [32]uint32 // each with another greatest bit
			for i := range 32 {
				d := sum.Of(s) ^ sum.Of(changed(s, at, 1<<i))
				for bit := 31; bit >= 0; bit-- {
					if d>>bit&1 == 1 && rows[bit] == 0 {
						rows[bit] = d
						break
					}
					if d>>bit&1 == 1 {
						d ^= rows[bit]
					}
				}
				if d == 0 {
					t.Errorf("% X at %d: bit %d changes nothing that others do not", s, at, i)
				}
			}
		}
	}
}

// TestShortDiffer: promise 3.2, all strings of one byte, of two bytes and of three of some bytes have different checksums.
func TestShortDiffer(t *testing.T) {
	seen := make(map[uint32]string)
	check := func(s string) {
		if other, ok := seen[sum.Of(s)]; ok {
			t.Errorf("Of(% X) and Of(% X): both %08X", s, other, sum.Of(s))
		}
		seen[sum.Of(s)] = s
	}
	for a := range 256 {
		check(string([]byte{byte(a)}))
	}
	clear(seen)
	for a := range 1 << 16 {
		check(string([]byte{byte(a), byte(a >> 8)}))
	}
	clear(seen)
	for a := range 1 << 15 {
		check(string([]byte{byte(a % 32 * 8), byte(a / 32 % 32 * 7), byte(a / 1024 * 5)}))
	}
}
