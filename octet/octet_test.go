package octet_test

import (
	"encoding/hex"
	"math"
	"strings"
	"testing"

	"selkie/octet"
)

// unhex is the bytes of hexadecimal digits, which spaces may separate.
func unhex(t *testing.T, digits string) string {
	t.Helper()
	b, err := hex.DecodeString(strings.ReplaceAll(digits, " ", ""))
	if err != nil {
		t.Fatal(err)
	}
	return string(b)
}

// number is an unsigned integer and its encoding.
type number struct {
	v    uint64
	code string
}

// numbers has the least and the greatest integer of each number of bytes.
func numbers() []number {
	return []number{
		{0, "00"},
		{1, "01 01"},
		{9, "01 09"},
		{127, "01 7F"},
		{128, "01 80"},
		{255, "01 FF"},
		{256, "02 01 00"},
		{300, "02 01 2C"},
		{1<<16 - 1, "02 FF FF"},
		{1 << 16, "03 01 00 00"},
		{0x010203, "03 01 02 03"},
		{1<<24 - 1, "03 FF FF FF"},
		{1 << 24, "04 01 00 00 00"},
		{1<<32 - 1, "04 FF FF FF FF"},
		{1 << 32, "05 01 00 00 00 00"},
		{1<<40 - 1, "05 FF FF FF FF FF"},
		{1 << 40, "06 01 00 00 00 00 00"},
		{1<<48 - 1, "06 FF FF FF FF FF FF"},
		{1 << 48, "07 01 00 00 00 00 00 00"},
		{1<<56 - 1, "07 FF FF FF FF FF FF FF"},
		{1 << 56, "08 01 00 00 00 00 00 00 00"},
		{0x0102030405060708, "08 01 02 03 04 05 06 07 08"},
		{math.MaxInt64, "08 7F FF FF FF FF FF FF FF"},
		{1 << 63, "08 80 00 00 00 00 00 00 00"},
		{math.MaxUint64 - 1, "08 FF FF FF FF FF FF FF FE"},
		{math.MaxUint64, "08 FF FF FF FF FF FF FF FF"},
	}
}

// signedNumber is a signed integer and its encoding.
type signedNumber struct {
	v    int64
	code string
}

func signedNumbers() []signedNumber {
	return []signedNumber{
		{0, "00"},
		{-1, "01 01"},
		{1, "01 02"},
		{-2, "01 03"},
		{2, "01 04"},
		{127, "01 FE"},
		{-128, "01 FF"},
		{128, "02 01 00"},
		{-129, "02 01 01"},
		{150, "02 01 2C"},
		{-150, "02 01 2B"},
		{1<<31 - 1, "04 FF FF FF FE"},
		{-1 << 31, "04 FF FF FF FF"},
		{1 << 31, "05 01 00 00 00 00"},
		{-1<<31 - 1, "05 01 00 00 00 01"},
		{1 << 62, "08 80 00 00 00 00 00 00 00"},
		{-1 << 62, "08 7F FF FF FF FF FF FF FF"},
		{math.MaxInt64, "08 FF FF FF FF FF FF FF FE"},
		{-math.MaxInt64, "08 FF FF FF FF FF FF FF FD"},
		{math.MinInt64, "08 FF FF FF FF FF FF FF FF"},
	}
}

// texts are strings with the encodings of their lengths: of each number of bytes that a test can afford, and of any bytes.
func texts() map[string]string {
	return map[string]string{
		"":                              "00",
		"a":                             "01 01",
		"abc":                           "01 03",
		"\x00":                          "01 01",
		"\x00\xff\xc3\x28\n":            "01 05",
		"é日":                            "01 05",
		strings.Repeat("x", 255):        "01 FF",
		strings.Repeat("y", 256):        "02 01 00",
		strings.Repeat("\x00\x09", 150): "02 01 2C",
		strings.Repeat("z", 1<<16):      "03 01 00 00",
	}
}

// TestNum: promise 2.1, Num.
func TestNum(t *testing.T) {
	for _, n := range numbers() {
		if got := octet.Num(n.v); got != unhex(t, n.code) {
			t.Errorf("Num(%d): % X; want %s", n.v, got, n.code)
		}
	}
}

// TestSigned: promise 2.1, Signed.
func TestSigned(t *testing.T) {
	for _, n := range signedNumbers() {
		if got := octet.Signed(n.v); got != unhex(t, n.code) {
			t.Errorf("Signed(%d): % X; want %s", n.v, got, n.code)
		}
	}
}

// TestText: promise 2.1, Text.
func TestText(t *testing.T) {
	for s, length := range texts() {
		if got := octet.Text(s); got != unhex(t, length)+s {
			t.Errorf("Text of %d bytes: %.40X; want %s and the bytes", len(s), got, length)
		}
	}
}
