package ident_test

import (
	"encoding/hex"
	"math"
	"strconv"
	"strings"
	"testing"

	"selkie/api"
	"selkie/ident"
)

const maxCount = api.MaxCount

// known is a valid id, its Text and the digits of its encoding.
type known struct {
	id   api.Id
	text string
	code string
}

// knowns are the chapter's example, and the least and the greatest values.
func knowns() []known {
	return []known{
		{api.Id{Origin: 2, Seq: 300}, "2.300", "01 02 02 01 2C"},
		{api.Id{Origin: 0, Seq: 1}, "0.1", "00 01 01"},
		{api.Id{Origin: 7, Seq: 1}, "7.1", "01 07 01 01"},
		{api.Id{Origin: 0, Seq: 255}, "0.255", "00 01 FF"},
		{api.Id{Origin: 1, Seq: 10}, "1.10", "01 01 01 0A"},
		{api.Id{Origin: 3, Seq: 256}, "3.256", "01 03 02 01 00"},
		{api.Id{Origin: 4, Seq: 65535}, "4.65535", "01 04 02 FF FF"},
		{api.Id{Origin: 5, Seq: 65536}, "5.65536", "01 05 03 01 00 00"},
		{api.Id{Origin: 6, Seq: 999999}, "6.999999", "01 06 03 0F 42 3F"},
		{api.Id{Origin: 6, Seq: 1000000}, "6.1000000", "01 06 03 0F 42 40"},
		{api.Id{Origin: 0, Seq: maxCount - 1}, "0.1048575", "00 03 0F FF FF"},
		{api.Id{Origin: 0, Seq: maxCount}, "0.1048576", "00 03 10 00 00"},
		{api.Id{Origin: 7, Seq: maxCount}, "7.1048576", "01 07 03 10 00 00"},
	}
}

// invalid are ids of which the Origin, the Seq or both are out of range; some would be valid if a part of their bits were left out.
func invalid() []api.Id {
	return []api.Id{
		{},
		{Origin: 0, Seq: 0},
		{Origin: 7, Seq: 0},
		{Origin: -1, Seq: 1},
		{Origin: 8, Seq: 1},
		{Origin: 9, Seq: 1},
		{Origin: 10, Seq: 300},
		{Origin: 256, Seq: 1},
		{Origin: 1 << 32, Seq: 1},
		{Origin: 1<<32 + 2, Seq: 300},
		{Origin: math.MaxInt, Seq: 1},
		{Origin: math.MinInt, Seq: 1},
		{Origin: math.MinInt + 1, Seq: 1},
		{Origin: 0, Seq: maxCount + 1},
		{Origin: 7, Seq: maxCount + 1},
		{Origin: 0, Seq: 1 << 21},
		{Origin: 0, Seq: 1<<24 + 1},
		{Origin: 0, Seq: 1 << 31},
		{Origin: 0, Seq: math.MaxInt32},
		{Origin: 0, Seq: math.MaxUint32},
		{Origin: -1, Seq: 0},
		{Origin: 8, Seq: 0},
		{Origin: -1, Seq: maxCount},
		{Origin: 8, Seq: maxCount},
		{Origin: -1, Seq: maxCount + 1},
		{Origin: 8, Seq: maxCount + 1},
		{Origin: math.MinInt, Seq: math.MaxUint32},
	}
}

// unhex is the bytes of hexadecimal digits, which spaces may separate.
func unhex(t *testing.T, digits string) string {
	t.Helper()
	b, err := hex.DecodeString(strings.ReplaceAll(digits, " ", ""))
	if err != nil {
		t.Fatal(err)
	}
	return string(b)
}

// checkFault holds an error: a Fault at this offset, of this number.
func checkFault(t *testing.T, name string, err error, at int, e api.Errno) {
	t.Helper()
	f, ok := err.(*api.Fault)
	if !ok || f == nil || f.At != at || f.Err != error(e) {
		t.Errorf("%s: %v; want error %d at %d", name, err, e, at)
	}
}

// checkParse holds that s is parsed to an id, or that it is not, with an error at an offset.
func checkParse(t *testing.T, s string, want api.Id, at int, e api.Errno) {
	t.Helper()
	got, err := ident.Parse(s)
	if got != want {
		t.Errorf("Parse(%q): %v beside %v; want %v", s, got, err, want)
	}
	if e != api.OK {
		checkFault(t, "Parse of "+strconv.Quote(s), err, at, e)
	} else if err != nil {
		t.Errorf("Parse(%q): %v; want no error", s, err)
	}
}

// TestCheck: promise 5.1, Check, with an Origin and a Seq at each end of what is valid, and beyond.
func TestCheck(t *testing.T) {
	for _, k := range knowns() {
		if e := ident.Check(k.id); e != api.OK {
			t.Errorf("Check(%v): error %d; want none", k.id, e)
		}
	}
	for _, id := range invalid() {
		if e := ident.Check(id); e != api.ErrRange {
			t.Errorf("Check(%v): error %d; want %d", id, e, api.ErrRange)
		}
	}
}

// TestCompare: promise 5.1, Compare: by Origin, then by Seq, also of fields that are not valid.
func TestCompare(t *testing.T) {
	ordered := []api.Id{
		{Origin: math.MinInt, Seq: 0},
		{Origin: math.MinInt, Seq: math.MaxUint32},
		{Origin: -1, Seq: 1},
		{Origin: -1, Seq: maxCount},
		{Origin: 0, Seq: 0},
		{Origin: 0, Seq: 1},
		{Origin: 0, Seq: 2},
		{Origin: 0, Seq: 10},
		{Origin: 0, Seq: 300},
		{Origin: 0, Seq: maxCount},
		{Origin: 0, Seq: maxCount + 1},
		{Origin: 0, Seq: math.MaxInt32},
		{Origin: 0, Seq: math.MaxUint32},
		{Origin: 1, Seq: 0},
		{Origin: 1, Seq: 5},
		{Origin: 2, Seq: 1},
		{Origin: 7, Seq: 1},
		{Origin: 7, Seq: maxCount},
		{Origin: 8, Seq: 1},
		{Origin: 10, Seq: 1},
		{Origin: 1 << 32, Seq: 0},
		{Origin: math.MaxInt, Seq: 0},
		{Origin: math.MaxInt, Seq: math.MaxUint32},
	}
	checkOrdered(t, "Compare", ordered, ident.Compare)
}

// checkOrdered holds that each of the values is less than those behind it.
func checkOrdered[T any](t *testing.T, name string, ordered []T, compare func(a, b T) int) {
	t.Helper()
	for i, a := range ordered {
		for j, b := range ordered {
			if got := compare(a, b); got != sign(i-j) {
				t.Errorf("%s(%v, %v): %d; want %d", name, a, b, got, sign(i-j))
			}
		}
	}
}

// sign is -1, 0 or 1, as n is less than, equal to or greater than 0.
func sign(n int) int {
	if n < 0 {
		return -1
	}
	return min(n, 1)
}

// TestText: promise 5.1, Text, which is empty if the id is not valid.
func TestText(t *testing.T) {
	for _, k := range knowns() {
		if got := ident.Text(k.id); got != k.text {
			t.Errorf("Text(%v): %q; want %q", k.id, got, k.text)
		}
	}
	for _, id := range invalid() {
		if got := ident.Text(id); got != "" {
			t.Errorf("Text(%v): %q; want it empty", id, got)
		}
	}
}

// TestParse: promise 5.1, Parse of what is a Text.
func TestParse(t *testing.T) {
	for _, k := range knowns() {
		checkParse(t, k.text, k.id, 0, api.OK)
	}
}

// TestParseShort: promise 5.1, a prefix of a Text that is no Text itself ends too early; all others are Texts.
func TestParseShort(t *testing.T) {
	checkParse(t, "", api.Id{}, 0, api.ErrShort)
	for _, origin := range []string{"0", "1", "2", "3", "4", "5", "6", "7"} {
		checkParse(t, origin, api.Id{}, 1, api.ErrShort)
		checkParse(t, origin+".", api.Id{}, 2, api.ErrShort)
	}
	for n, seq := range []uint32{1, 10, 104, 1048, 10485, 104857, 1048576} {
		checkParse(t, "7.1048576"[:3+n], api.Id{Origin: 7, Seq: seq}, 0, api.OK)
	}
}

// TestParseErrors: promise 5.1, ErrField at the first byte with which no Text goes on.
func TestParseErrors(t *testing.T) {
	for _, c := range []struct {
		s  string
		at int
	}{
		// An Origin that is none.
		{"8", 0}, {"9", 0}, {"8.1", 0}, {"9.1048576", 0}, {".", 0}, {".1", 0}, {"-1.1", 0}, {"+1.1", 0}, {" 1.1", 0},
		{"/", 0}, {":", 0}, {"/.1", 0}, {":.1", 0}, {"a", 0}, {"\x00", 0}, {"\x00.1", 0}, {"\x02.1", 0}, {"\xff", 0}, {"\xb2.1", 0},
		// An Origin with leading zeros, or of two digits.
		{"00.1", 1}, {"02.300", 1}, {"000", 1}, {"10.1", 1}, {"12", 1}, {"77.1", 1}, {"07", 1},
		// No period.
		{"2,300", 1}, {"2 .300", 1}, {"2:1", 1}, {"2-1", 1}, {"2/1", 1}, {"2a", 1}, {"2\x00", 1}, {"2\xae300", 1}, {"2\xff", 1},
		// A Seq of 0, or with leading zeros.
		{"2.0", 2}, {"0.0", 2}, {"2.00", 2}, {"2.01", 2}, {"2.0300", 2}, {"2.0x", 2}, {"2.01048577", 2},
		// A second period.
		{"2..", 2}, {"2..300", 2}, {"2.3.", 3}, {"2.3.00", 3}, {"2.300.", 5}, {"2.300.1", 5}, {"2.1048576.", 9},
		// A byte that is neither a digit nor a period.
		{"2.-1", 2}, {"2.+1", 2}, {"2. 1", 2}, {"2.a", 2}, {"2./", 2}, {"2.:", 2}, {"2.\x00", 2}, {"2.\x01", 2}, {"2.\xff", 2}, {"2.\xb3", 2},
		{"2.3/", 3}, {"2.3:", 3}, {"2.3a", 3}, {"2.3e2", 3}, {"2.3_0", 3}, {"2.0x1", 2}, {"2.3\x00", 3}, {"2.3\x10", 3}, {"2.3\xff", 3}, {"2.3\xb0", 3},
		{"2.\u0663", 2}, {"2.3\u0660", 3}, {"\u0662.3", 0},
		// A Seq beyond MaxCount: what its first six digits make never is.
		{"2.1048577", 8}, {"2.1048578", 8}, {"2.1048579", 8}, {"2.1048580", 8}, {"2.1048600", 8}, {"2.1049000", 8},
		{"2.1050000", 8}, {"2.1100000", 8}, {"2.2000000", 8}, {"2.9999999", 8}, {"2.9999998x", 8}, {"2.999999999", 8},
		{"0.1048577", 8}, {"7.1048577", 8},
		{"2.10485760", 9}, {"2.10485769", 9}, {"2.10000000", 9}, {"2.10000001", 9}, {"2.1" + strings.Repeat("0", 100), 9},
		// A Seq that would be valid if its greatest bits were left out.
		{"2.4294967297", 8}, {"2.18446744073709551617", 8},
		// Bytes behind a whole Text.
		{"2.300 ", 5}, {"2.300\n", 5}, {"2.300\x00", 5}, {"2.300x", 5}, {"2.1048576 ", 9}, {"2.10485761", 9}, {"0.1,0.2", 3}, {"2.300-1", 5},
		{"2.3" + strings.Repeat("\x00", 1<<16), 3},
	} {
		checkParse(t, c.s, api.Id{}, c.at, api.ErrField)
	}
}

// TestParseOwn: results are shared with nothing: what a caller writes into a Fault does not come back.
func TestParseOwn(t *testing.T) {
	for range 2 {
		for s, at := range map[string]int{"2.0": 2, "2.": 2} {
			_, err := ident.Parse(s)
			f, ok := err.(*api.Fault)
			if !ok || f == nil || f.At != at || f.Err == nil {
				t.Fatalf("Parse(%q): %v", s, err)
			}
			f.At, f.Err = 5, nil
		}
	}
}
