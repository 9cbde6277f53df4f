package ident_test

import (
	"math"
	"strings"
	"testing"

	"selkie/api"
	"selkie/ident"
	"selkie/octet"
)

// knownTag is a valid tag and the digits of its encoding.
type knownTag struct {
	tag  api.Tag
	code string
}

// knownTags are all known ids, each with the least N, the greatest one and another one.
func knownTags() []knownTag {
	var out []knownTag
	for _, k := range knowns() {
		out = append(out,
			knownTag{api.Tag{Id: k.id, N: 0}, k.code + " 00"},
			knownTag{api.Tag{Id: k.id, N: 1}, k.code + " 01 01"},
			knownTag{api.Tag{Id: k.id, N: 15}, k.code + " 01 0F"})
	}
	return out
}

// invalidTags are tags of which the id, the N or both are out of range.
func invalidTags() []api.Tag {
	var out []api.Tag
	others := []int{-1, 16, 17, 256, 1 << 32, 1<<32 + 1, math.MaxInt, math.MinInt, math.MinInt + 1}
	for _, n := range others {
		for _, k := range knowns() {
			out = append(out, api.Tag{Id: k.id, N: n})
		}
	}
	for _, id := range invalid() {
		for _, n := range append(others, 0, 15) {
			out = append(out, api.Tag{Id: id, N: n})
		}
	}
	return out
}

// checkAt holds the reader's offset, and its error: at this offset and of this number, or none if e is OK.
func checkAt(t *testing.T, name string, r *octet.Reader, at int, e api.Errno) {
	t.Helper()
	if r.At() != at {
		t.Errorf("%s: offset %d; want %d", name, r.At(), at)
	}
	if e != api.OK {
		checkFault(t, name, r.Err(), at, e)
	} else if r.Err() != nil {
		t.Errorf("%s: %v; want no error", name, r.Err())
	}
}

// befores are encodings that may stand before an id: they move the offset of an error.
func befores() []string {
	return []string{"", "\x00", "\x01\x07\x00\x02\x01\x2c"}
}

// readerBehind is a reader of before and code that has decoded the integers in before.
func readerBehind(before, code string) *octet.Reader {
	r := octet.New(before + code)
	for r.At() < len(before) {
		r.Num()
	}
	return r
}

// checkRead holds that Read and ReadTag fail at an offset within code; no code here has a whole tag.
func checkRead(t *testing.T, code string, at int, e api.Errno) {
	t.Helper()
	for _, before := range befores() {
		r := readerBehind(before, code)
		if got := ident.Read(r); got != (api.Id{}) {
			t.Errorf("Read of % X: %v; want the zero Id", code, got)
		}
		checkAt(t, "Read of "+shown(code), r, len(before)+at, e)
	}
	checkReadTag(t, code, at, e)
}

// checkReadTag holds that ReadTag fails at an offset within code.
func checkReadTag(t *testing.T, code string, at int, e api.Errno) {
	t.Helper()
	for _, before := range befores() {
		r := readerBehind(before, code)
		if got := ident.ReadTag(r); got != (api.Tag{}) {
			t.Errorf("ReadTag of % X: %v; want the zero Tag", code, got)
		}
		checkAt(t, "ReadTag of "+shown(code), r, len(before)+at, e)
	}
}

// TestWrite: promise 5.2, Write, which is empty if the id is not valid.
func TestWrite(t *testing.T) {
	for _, k := range knowns() {
		if got := ident.Write(k.id); got != unhex(t, k.code) {
			t.Errorf("Write(%v): % X; want %s", k.id, got, k.code)
		}
	}
	for _, id := range invalid() {
		if got := ident.Write(id); got != "" {
			t.Errorf("Write(%v): % X; want it empty", id, got)
		}
	}
}

// checkWhole holds that read decodes code to want, behind what is before it, and ends there, whatever follows.
func checkWhole[T comparable](t *testing.T, name, code string, want T, read func(r *octet.Reader) T) {
	t.Helper()
	for _, before := range befores() {
		for _, rest := range []string{"", "\x00", "\x09", "\xff\xff", code} {
			r := readerBehind(before, code+rest)
			if got := read(r); got != want {
				t.Errorf("%s of % X: %v; want %v", name, code, got, want)
			}
			checkAt(t, name+" of "+shown(code), r, len(before)+len(code), api.OK)
		}
	}
}

// TestRead: promise 5.2, Read goes on where the reader is, and ends behind the id, whatever follows.
func TestRead(t *testing.T) {
	for _, k := range knowns() {
		checkWhole(t, "Read", unhex(t, k.code), k.id, ident.Read)
	}
}

// TestReadCut: promise 5.2, an id that is cut off at every place: the error is at the start of the number that is not whole.
func TestReadCut(t *testing.T) {
	for _, k := range knowns() {
		code := unhex(t, k.code)
		seq := 1 + int(code[0]) // where the Seq starts
		for cut := range code {
			at := 0
			if cut >= seq {
				at = seq
			}
			checkRead(t, code[:cut], at, api.ErrShort)
		}
		checkReadTag(t, code, len(code), api.ErrShort)
	}
}

// TestReadErrors: promise 5.2, a number out of range or not as it must be is an error at its start; a Seq of 0 is one behind it.
func TestReadErrors(t *testing.T) {
	for _, c := range []struct {
		code string
		at   int
		e    api.Errno
	}{
		// Origins.
		{"01 08 01 01", 0, api.ErrRange},
		{"01 FF 01 01", 0, api.ErrRange},
		{"02 01 00 01 01", 0, api.ErrRange},
		{"05 01 00 00 00 02 01 01", 0, api.ErrRange},
		{"08 FF FF FF FF FF FF FF FF 01 01", 0, api.ErrRange},
		{"09 01 01", 0, api.ErrField},
		{"01 00 01 01", 0, api.ErrField},
		{"02 00 02 01 01", 0, api.ErrField},
		// An Origin out of range comes before whatever the Seq is.
		{"01 08 00", 0, api.ErrRange},
		{"01 08 09", 0, api.ErrRange},
		{"01 08", 0, api.ErrRange},
		// Seqs.
		{"00 03 10 00 01", 1, api.ErrRange},
		{"01 07 03 10 00 01", 2, api.ErrRange},
		{"01 02 04 01 00 00 01", 2, api.ErrRange},
		{"01 02 04 FF FF FF FF", 2, api.ErrRange},
		{"01 02 05 01 00 00 00 01", 2, api.ErrRange},
		{"01 02 08 FF FF FF FF FF FF FF FF", 2, api.ErrRange},
		{"01 02 0A", 2, api.ErrField},
		{"01 02 01 00", 2, api.ErrField},
		{"01 02 02 00 01", 2, api.ErrField},
		// Seqs of 0.
		{"00 00", 2, api.ErrRange},
		{"01 01 00", 3, api.ErrRange},
		{"01 07 00", 3, api.ErrRange},
		// A Seq of 0 comes before whatever the N is.
		{"00 00 01 10", 2, api.ErrRange},
		{"01 07 00 09", 3, api.ErrRange},
		{"01 07 00 00", 3, api.ErrRange},
	} {
		checkRead(t, unhex(t, c.code), c.at, c.e)
	}
}

// TestReadAfterError: promise 5.2, of a reader that already has an error nothing is decoded, and the error stays.
func TestReadAfterError(t *testing.T) {
	for _, code := range []string{"", "00 01 01 00", "01 07 03 10 00 00 01 0F", "00 00 00", "01 08 00 00", "09", "01 02"} {
		for _, e := range []api.Errno{api.ErrKind, api.ErrRange, api.ErrCommand, -1} {
			r := octet.New("\x05" + unhex(t, code))
			r.Fail(e)
			for range 2 {
				if id, tag := ident.Read(r), ident.ReadTag(r); id != (api.Id{}) || tag != (api.Tag{}) {
					t.Errorf("of a reader with an error: %v, %v; want zero values", id, tag)
				}
				checkAt(t, "a reader with an error", r, 0, e)
			}
		}
		// An error that came up behind the first id, at an offset that is not 0.
		r := octet.New("\x00\x01\x01\x09" + unhex(t, code))
		if id := ident.Read(r); id != (api.Id{Seq: 1}) {
			t.Errorf("Read: %v; want Origin 0 and Seq 1", id)
		}
		if n := r.Num(); n != 0 {
			t.Errorf("Num of 09: %d; want 0", n)
		}
		if id, tag := ident.Read(r), ident.ReadTag(r); id != (api.Id{}) || tag != (api.Tag{}) {
			t.Errorf("behind an error: %v, %v; want zero values", id, tag)
		}
		checkAt(t, "behind an error", r, 3, api.ErrField)
	}
}

// TestReadNone: P1, Read and ReadTag end on a nil Reader and on a zero one.
func TestReadNone(t *testing.T) {
	for _, r := range []*octet.Reader{nil, {}} {
		if id := ident.Read(r); id != (api.Id{}) {
			t.Errorf("Read without bytes: %v; want the zero Id", id)
		}
		if tag := ident.ReadTag(r); tag != (api.Tag{}) {
			t.Errorf("ReadTag without bytes: %v; want the zero Tag", tag)
		}
	}
}

// TestCheckTag: promise 5.2, CheckTag, with an N at each end of what is valid, and beyond.
func TestCheckTag(t *testing.T) {
	for _, k := range knownTags() {
		if e := ident.CheckTag(k.tag); e != api.OK {
			t.Errorf("CheckTag(%v): error %d; want none", k.tag, e)
		}
	}
	for _, tag := range invalidTags() {
		if e := ident.CheckTag(tag); e != api.ErrRange {
			t.Errorf("CheckTag(%v): error %d; want %d", tag, e, api.ErrRange)
		}
	}
}

// TestCompareTag: promise 5.2, CompareTag: by Id, then by N, also of fields that are not valid.
func TestCompareTag(t *testing.T) {
	var ordered []api.Tag
	for _, id := range []api.Id{
		{Origin: math.MinInt, Seq: math.MaxUint32},
		{Origin: -1, Seq: 1},
		{Origin: 0, Seq: 0},
		{Origin: 0, Seq: 1},
		{Origin: 0, Seq: 300},
		{Origin: 0, Seq: maxCount + 1},
		{Origin: 1, Seq: 1},
		{Origin: 7, Seq: maxCount},
		{Origin: 8, Seq: 0},
		{Origin: math.MaxInt, Seq: math.MaxUint32},
	} {
		for _, n := range []int{math.MinInt, -1, 0, 1, 2, 10, 15, 16, 1 << 32, math.MaxInt} {
			ordered = append(ordered, api.Tag{Id: id, N: n})
		}
	}
	checkOrdered(t, "CompareTag", ordered, ident.CompareTag)
}

// TestWriteTag: promise 5.2, WriteTag, which is empty if the tag is not valid.
func TestWriteTag(t *testing.T) {
	for _, k := range knownTags() {
		if got := ident.WriteTag(k.tag); got != unhex(t, k.code) {
			t.Errorf("WriteTag(%v): % X; want %s", k.tag, got, k.code)
		}
	}
	for _, tag := range invalidTags() {
		if got := ident.WriteTag(tag); got != "" {
			t.Errorf("WriteTag(%v): % X; want it empty", tag, got)
		}
	}
}

// TestReadTag: promise 5.2, ReadTag goes on where the reader is, and ends behind the tag, whatever follows.
func TestReadTag(t *testing.T) {
	for _, k := range knownTags() {
		checkWhole(t, "ReadTag", unhex(t, k.code), k.tag, ident.ReadTag)
	}
}

// TestReadTagN: promise 5.2, an N that is missing, cut off, out of range or not as it must be: the error is at its start.
func TestReadTagN(t *testing.T) {
	for _, k := range knowns() {
		code := unhex(t, k.code)
		for _, c := range []struct {
			n string
			e api.Errno
		}{
			{"", api.ErrShort},
			{"01", api.ErrShort},
			{"02 01", api.ErrShort},
			{"01 10", api.ErrRange},
			{"01 11", api.ErrRange},
			{"01 FF", api.ErrRange},
			{"02 01 00", api.ErrRange},
			{"05 01 00 00 00 01", api.ErrRange},
			{"08 FF FF FF FF FF FF FF FF", api.ErrRange},
			{"09", api.ErrField},
			{"0F", api.ErrField},
			{"01 00", api.ErrField},
			{"02 00 01", api.ErrField},
		} {
			checkReadTag(t, code+unhex(t, c.n), len(code), c.e)
		}
	}
}

// TestReadSeveral: promise 5.2, ids and tags one behind the other, up to the end.
func TestReadSeveral(t *testing.T) {
	var code strings.Builder
	for _, k := range knownTags() {
		code.WriteString(ident.Write(k.tag.Id) + ident.WriteTag(k.tag))
	}
	r := octet.New(code.String())
	for _, k := range knownTags() {
		if id := ident.Read(r); id != k.tag.Id {
			t.Errorf("Read: %v; want %v", id, k.tag.Id)
		}
		if tag := ident.ReadTag(r); tag != k.tag {
			t.Errorf("ReadTag: %v; want %v", tag, k.tag)
		}
	}
	if err := r.End(); err != nil {
		t.Errorf("End: %v", err)
	}
}
