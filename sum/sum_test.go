package sum_test

import (
	"strings"
	"testing"

	"selkie/sum"
)

// known is a string, its checksum and the bytes of that.
type known struct {
	s     string
	sum   uint32
	bytes string
}

// knowns are the chapter's examples and other strings whose checksums are well known.
func knowns() []known {
	return []known{
		{"", 0, "\x00\x00\x00\x00"},
		{"123456789", 0xCBF43926, "\x26\x39\xF4\xCB"},
		{"\x00", 0xD202EF8D, "\x8D\xEF\x02\xD2"},
		{"\xFF", 0xFF000000, "\x00\x00\x00\xFF"},
		{"a", 0xE8B7BE43, "\x43\xBE\xB7\xE8"},
		{"abc", 0x352441C2, "\xC2\x41\x24\x35"},
		{"\x00\x00\x00\x00", 0x2144DF1C, "\x1C\xDF\x44\x21"},
		{"\xFF\xFF\xFF\xFF", 0xFFFFFFFF, "\xFF\xFF\xFF\xFF"},
		{"The quick brown fox jumps over the lazy dog", 0x414FA339, "\x39\xA3\x4F\x41"},
		{strings.Repeat("\x00", 32), 0x190A55AD, "\xAD\x55\x0A\x19"},
		{strings.Repeat("\xFF", 32), 0xFF6CAB0B, "\x0B\xAB\x6C\xFF"},
	}
}

// TestOf: promise 3.1, Of.
func TestOf(t *testing.T) {
	for _, k := range knowns() {
		if got := sum.Of(k.s); got != k.sum {
			t.Errorf("Of(%q): %08X; want %08X", k.s, got, k.sum)
		}
	}
}

// TestMore: promise 3.1, More, also with sums that are no checksum of anything at hand.
func TestMore(t *testing.T) {
	for _, m := range []struct {
		sum  uint32
		s    string
		want uint32
	}{
		{0, "", 0},
		{0, "123456789", 0xCBF43926},
		{0xE8B7BE43, "bc", 0x352441C2},
		{0xCBF43926, "", 0xCBF43926},
		{0xFFFFFFFF, "", 0xFFFFFFFF},
		// c is 0 and stays so.
		{0xFFFFFFFF, "\x00", 0xFFFFFFFF},
		{0xFFFFFFFF, strings.Repeat("\x00", 100), 0xFFFFFFFF},
		// c is 1 ahead of the steps, so that only the first one XORs.
		{0xFFFFFFFE, "\x01", 0xFFFFFFFF},
		{0xFFFFFFFE, "\x00", ^uint32(0x77073096)},
		{0xFFFFFFFF, "\x01", ^uint32(0x77073096)},
		// c has its greatest bit only, which eight steps move down by eight.
		{0x7FFFFFFF, "\x00", ^uint32(0x00800000)},
		{0x7FFFFFFF, "\x00\x00\x00", ^uint32(0x00000080)},
		{0x7FFFFFFF, "\x00\x00\x00\x80", 0xFFFFFFFF},
		{0x7FFFFFFF, "\x00\x00\x00\x00", ^uint32(0xEDB88320)},
	} {
		if got := sum.More(m.sum, m.s); got != m.want {
			t.Errorf("More(%08X, %q): %08X; want %08X", m.sum, m.s, got, m.want)
		}
	}
}

// TestBytes: promise 3.1, Bytes.
func TestBytes(t *testing.T) {
	for _, k := range knowns() {
		if got := sum.Bytes(k.sum); got != k.bytes {
			t.Errorf("Bytes(%08X): % X; want % X", k.sum, got, k.bytes)
		}
	}
	for v, want := range map[uint32]string{
		0x00000001: "\x01\x00\x00\x00",
		0x00000100: "\x00\x01\x00\x00",
		0x00010000: "\x00\x00\x01\x00",
		0x01000000: "\x00\x00\x00\x01",
		0x80FF7F01: "\x01\x7F\xFF\x80",
		0x01020304: "\x04\x03\x02\x01",
	} {
		if got := sum.Bytes(v); got != want {
			t.Errorf("Bytes(%08X): % X; want % X", v, got, want)
		}
	}
}

// TestSeal: promise 3.1, Seal, and that Ends holds of what it returns.
func TestSeal(t *testing.T) {
	for _, k := range knowns() {
		got := sum.Seal(k.s)
		if got != k.s+k.bytes {
			t.Errorf("Seal(%q): % X; want the string and % X", k.s, got, k.bytes)
		}
		if !sum.Ends(got) {
			t.Errorf("Ends(% X): false; want true", got)
		}
		if twice := sum.Seal(got); !strings.HasPrefix(twice, got) || !sum.Ends(twice) {
			t.Errorf("Seal(% X): % X, which does not end with its checksum", got, twice)
		}
	}
}

// TestEndsShort: promise 3.1, a string of fewer than four bytes does not end with a checksum, also if it is a part of one.
func TestEndsShort(t *testing.T) {
	for _, s := range []string{
		"", "\x00", "\x00\x00", "\x00\x00\x00",
		"a", "ab", "abc", "\xFF", "\xFF\xFF\xFF",
		"\x8D\xEF\x02", "\xD2",
	} {
		if sum.Ends(s) {
			t.Errorf("Ends(% X): true; want false", s)
		}
	}
	if !sum.Ends("\x00\x00\x00\x00") {
		t.Errorf("Ends of four zero bytes, the checksum of no bytes: false; want true")
	}
}

// TestEndsOther: promise 3.1, the last four bytes have to be the checksum of exactly the bytes before, least significant byte first.
func TestEndsOther(t *testing.T) {
	for _, k := range knowns() {
		big := []byte{k.bytes[3], k.bytes[2], k.bytes[1], k.bytes[0]}
		others := []string{
			sum.Bytes(^k.sum),
			sum.Bytes(k.sum + 1),
			sum.Bytes(sum.Of(k.s + "\x00")),
			sum.Bytes(sum.Of("\x00" + k.s)),
			sum.Bytes(sum.Of(k.s + k.bytes)),
			sum.Bytes(sum.Of("another string")),
			string(big),
			k.bytes[:3],
			k.bytes + "\x00",
			"\x00\x00\x00\x00",
		}
		for i := range 32 {
			others = append(others, sum.Bytes(k.sum^1<<i))
		}
		for _, other := range others {
			if other == k.bytes {
				continue
			}
			if sum.Ends(k.s + other) {
				t.Errorf("Ends(%q followed by % X): true; want false, the checksum is % X", k.s, other, k.bytes)
			}
		}
	}
}
