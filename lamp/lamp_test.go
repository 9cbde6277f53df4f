package lamp_test

import (
	"math"
	"testing"

	"selkie/api"
	"selkie/lamp"
)

const maxCount = api.MaxCount

// known is a valid stamp and its encoding.
type known struct {
	s    api.Stamp
	code string
}

// knowns are the zero stamp and the greatest one, and stamps whose Time takes each number of bytes.
func knowns() []known {
	return []known{
		{api.Stamp{}, "\x00\x00"},
		{api.Stamp{Time: 0, Origin: 1}, "\x00\x01\x01"},
		{api.Stamp{Time: 0, Origin: 7}, "\x00\x01\x07"},
		{api.Stamp{Time: 1, Origin: 0}, "\x01\x01\x00"},
		{api.Stamp{Time: 1, Origin: 2}, "\x01\x01\x01\x02"},
		{api.Stamp{Time: 8, Origin: 2}, "\x01\x08\x01\x02"},
		{api.Stamp{Time: 255, Origin: 3}, "\x01\xff\x01\x03"},
		{api.Stamp{Time: 256, Origin: 4}, "\x02\x01\x00\x01\x04"},
		{api.Stamp{Time: 300, Origin: 5}, "\x02\x01\x2c\x01\x05"},
		{api.Stamp{Time: 65535, Origin: 6}, "\x02\xff\xff\x01\x06"},
		{api.Stamp{Time: 65536, Origin: 0}, "\x03\x01\x00\x00\x00"},
		{api.Stamp{Time: 65536, Origin: 7}, "\x03\x01\x00\x00\x01\x07"},
		{api.Stamp{Time: maxCount - 1, Origin: 1}, "\x03\x0f\xff\xff\x01\x01"},
		{api.Stamp{Time: maxCount, Origin: 0}, "\x03\x10\x00\x00\x00"},
		{api.Stamp{Time: maxCount, Origin: 7}, "\x03\x10\x00\x00\x01\x07"},
	}
}

// invalidTimes are no counts; some would be if a part of their bits were left out.
func invalidTimes() []uint32 {
	return []uint32{maxCount + 1, maxCount + 2, 1<<21 - 1, 1 << 21, 1 << 24, 1<<24 + 1, math.MaxInt32, 1 << 31, 1<<31 + 1, math.MaxUint32 - 1, math.MaxUint32}
}

// invalidOrigins are out of range; some would not be if a part of their bits were left out.
func invalidOrigins() []int {
	return []int{math.MinInt, math.MinInt + 1, -1 << 32, -256, -8, -7, -1, 8, 9, 15, 16, 255, 256, 1 << 32, 1<<32 + 7, math.MaxInt - 7, math.MaxInt}
}

// invalid are stamps of which the Time, the Origin or both are out of range.
func invalid() []api.Stamp {
	var out []api.Stamp
	for _, time := range invalidTimes() {
		for origin := range api.MaxOrigins {
			out = append(out, api.Stamp{Time: time, Origin: origin})
		}
	}
	for _, origin := range invalidOrigins() {
		for _, time := range append(invalidTimes(), 0, 1, 300, maxCount-1, maxCount) {
			out = append(out, api.Stamp{Time: time, Origin: origin})
		}
	}
	return out
}

// TestCheck: promise 9.1, Check, with a Time and an Origin at each end of what is valid, and beyond.
func TestCheck(t *testing.T) {
	for _, time := range []uint32{0, 1, 255, 256, 65536, maxCount - 1, maxCount} {
		for origin := range api.MaxOrigins {
			s := api.Stamp{Time: time, Origin: origin}
			if e := lamp.Check(s); e != api.OK {
				t.Errorf("Check(%v): error %d; want none", s, e)
			}
		}
	}
	for _, s := range invalid() {
		if e := lamp.Check(s); e != api.ErrRange {
			t.Errorf("Check(%v): error %d; want %d", s, e, api.ErrRange)
		}
	}
}

// ordered are stamps with any field values, each less than those behind it.
func ordered() []api.Stamp {
	var out []api.Stamp
	for _, time := range []uint32{0, 1, 2, 7, 8, 255, 256, 300, maxCount - 1, maxCount, maxCount + 1, math.MaxInt32, 1 << 31, math.MaxUint32} {
		for _, origin := range []int{math.MinInt, math.MinInt + 1, -1 << 32, -2, -1, 0, 1, 2, 6, 7, 8, 10, 1 << 32, math.MaxInt} {
			out = append(out, api.Stamp{Time: time, Origin: origin})
		}
	}
	return out
}

// sign is -1, 0 or 1, as n is less than, equal to or greater than 0.
func sign(n int) int {
	return min(max(n, -1), 1)
}

// TestCompare: promise 9.1, Compare: by Time, then by Origin, also of fields that are not valid.
func TestCompare(t *testing.T) {
	for i, a := range ordered() {
		for j, b := range ordered() {
			if got := lamp.Compare(a, b); got != sign(i-j) {
				t.Errorf("Compare(%v, %v): %d; want %d", a, b, got, sign(i-j))
			}
		}
	}
}

// TestCompareZero: the chapter's definition, the zero stamp is the least one that is valid.
func TestCompareZero(t *testing.T) {
	for _, k := range knowns()[1:] {
		if got := lamp.Compare(api.Stamp{}, k.s); got != -1 {
			t.Errorf("Compare of the zero stamp with %v: %d; want -1", k.s, got)
		}
	}
}
