package dots_test

import (
	"slices"
	"testing"

	"selkie/api"
	"selkie/dots"
	"selkie/octet"
	"selkie/vec"
)

// subsets is all lists of some of these ids, in their order.
func subsets(all []api.Id) [][]api.Id {
	out := [][]api.Id{nil}
	for _, id := range all {
		for _, l := range out {
			out = append(out, append(slices.Clone(l), id))
		}
	}
	return out
}

// lists is all lists of up to n of these ids, in any order and repeated or not.
func lists(all []api.Id, n int) [][]api.Id {
	out := [][]api.Id{nil}
	for from := 0; n > 0; n-- {
		to := len(out)
		for _, l := range out[from:to] {
			for _, id := range all {
				out = append(out, append(slices.Clone(l), id))
			}
		}
		from = to
	}
	return out
}

// less is the order of ids, written out.
func less(a, b api.Id) bool {
	return a.Origin < b.Origin || a.Origin == b.Origin && a.Seq < b.Seq
}

// sane tells whether id is valid, written out.
func sane(id api.Id) bool {
	return 0 <= id.Origin && id.Origin <= 7 && 1 <= id.Seq && id.Seq <= 1<<20
}

// in tells whether id is in l, written out.
func in(l []api.Id, id api.Id) bool {
	for _, x := range l {
		if x.Origin == id.Origin && x.Seq == id.Seq {
			return true
		}
	}
	return false
}

// checkOf is what Check returns of a list that is not too long, written out.
func checkOf(l []api.Id) api.Errno {
	e := api.OK
	for i, id := range l {
		if !sane(id) {
			return api.ErrRange
		}
		if i > 0 && !less(l[i-1], id) {
			e = api.ErrField
		}
	}
	return e
}

// TestListsDefined: promise 7.1, all short lists of ids, valid or not: Check and Has are what the chapter says, and Make a set of the same elements.
func TestListsDefined(t *testing.T) {
	all := append(ids(t, "0.1 0.2 1.1 7.1048576"), api.Id{Origin: -1, Seq: 1}, api.Id{Origin: 8, Seq: 1}, api.Id{Origin: 0, Seq: 0}, api.Id{Origin: 3, Seq: maxCount + 1})
	for _, l := range lists(all, 4) {
		if e := dots.Check(l); e != checkOf(l) {
			t.Errorf("Check(%v): error %d; want %d", l, e, checkOf(l))
		}
		for _, id := range all {
			if dots.Has(l, id) != in(l, id) {
				t.Errorf("Has(%v, %v): %t", l, id, dots.Has(l, id))
			}
		}
		set, e := dots.Make(l)
		if slices.ContainsFunc(l, func(id api.Id) bool { return !sane(id) }) {
			if e != api.ErrRange || len(set) > 0 {
				t.Errorf("Make(%v): %v, error %d", l, set, e)
			}
			continue
		}
		if e != api.OK || checkOf(set) != api.OK {
			t.Errorf("Make(%v): %v, error %d", l, set, e)
		}
		for _, id := range all {
			if in(set, id) != in(l, id) {
				t.Errorf("Make(%v): %v", l, set)
			}
		}
	}
}

// TestPairsDefined: promise 7.2, all pairs of sets of some ids: Union and Minus are sets, of the elements that the chapter says.
func TestPairsDefined(t *testing.T) {
	all := ids(t, "0.1 0.2 0.1048576 1.1 1.3 7.2")
	for _, a := range subsets(all) {
		for _, b := range subsets(all) {
			union, e := dots.Union(a, b)
			if e != api.OK || checkOf(union) != api.OK {
				t.Fatalf("Union(%v, %v): %v, error %d", a, b, union, e)
			}
			minus, e := dots.Minus(a, b)
			if e != api.OK || checkOf(minus) != api.OK {
				t.Fatalf("Minus(%v, %v): %v, error %d", a, b, minus, e)
			}
			for _, id := range all {
				if in(union, id) != (in(a, id) || in(b, id)) || in(minus, id) != (in(a, id) && !in(b, id)) {
					t.Fatalf("%v and %v: Union %v, Minus %v", a, b, union, minus)
				}
			}
		}
	}
}

// counts are the vectors with few transactions of three origins.
func counts() []api.Vec {
	var out []api.Vec
	for n := range uint32(125) {
		out = append(out, api.Vec{n % 5, 0, 0, n / 5 % 5, 0, 0, 0, n / 25})
	}
	return out
}

// checkFolded holds promise 7.4 for what Fold makes of v and l.
func checkFolded(t *testing.T, v api.Vec, l []api.Id) {
	t.Helper()
	more, left, e := dots.Fold(v, l)
	beyond, beyondE := dots.Beyond(l, v)
	if e != api.OK || beyondE != api.OK || checkOf(left) != api.OK || !vec.LE(v, more) {
		t.Fatalf("Fold(%v, %v): %v, %v, error %d", v, l, more, left, e)
	}
	var taken []api.Id
	for _, id := range beyond {
		if in(left, id) == vec.Has(more, id) {
			t.Fatalf("Fold(%v, %v): %v, %v: %v is both taken and left, or neither", v, l, more, left, id)
		}
		if vec.Has(more, id) {
			taken = append(taken, id)
		}
	}
	if len(taken)+len(left) != len(beyond) || vec.Total(more) != vec.Total(v)+uint64(len(taken)) {
		t.Fatalf("Fold(%v, %v): %v, %v: not just what was beyond", v, l, more, left)
	}
	for _, id := range left {
		if next, e := vec.Next(more, id.Origin); e != api.OK || !less(next, id) {
			t.Fatalf("Fold(%v, %v): %v, %v: %v is not behind a gap", v, l, more, left, id)
		}
	}
	again, rest, e := dots.Fold(more, l)
	if again != more || !slices.Equal(rest, left) || e != api.OK {
		t.Fatalf("Fold(%v, %v) of what Fold returned: %v, %v, error %d", more, l, again, rest, e)
	}
}

// TestFolded: promise 7.4, all sets of some ids of three origins, with all vectors around them.
func TestFolded(t *testing.T) {
	for _, l := range subsets(ids(t, "0.1 0.2 0.3 3.1 3.2 3.3 3.4 7.2 7.3 7.5")) {
		for _, v := range counts() {
			checkFolded(t, v, l)
		}
	}
}

// TestFoldedBounds: promise 7.4, the same around MaxCount, where an origin has no next transaction.
func TestFoldedBounds(t *testing.T) {
	for _, l := range subsets(ids(t, "2.1048573 2.1048574 2.1048575 2.1048576 4.1 4.1048576")) {
		for n := uint32(maxCount - 5); n <= maxCount; n++ {
			for _, other := range []uint32{0, 1, maxCount - 1, maxCount} {
				checkFolded(t, api.Vec{0, 0, n, 0, other}, l)
			}
		}
	}
}

// TestFoldOrder: promise 7.4, a set is folded to the same, whether at once or in two parts, one after the other and with what the first one left.
func TestFoldOrder(t *testing.T) {
	all := ids(t, "0.1 0.2 0.3 3.1 3.2 7.2 7.3")
	for _, l := range subsets(all) {
		for _, first := range subsets(l) {
			v := api.Vec{0, 5, 0, 1}
			want, wantLeft, _ := dots.Fold(v, l)
			second, _ := dots.Minus(l, first)
			more, left, _ := dots.Fold(v, first)
			rest, _ := dots.Union(left, second)
			more, left, e := dots.Fold(more, rest)
			if more != want || !slices.Equal(left, wantLeft) || e != api.OK {
				t.Fatalf("Fold of %v and then %v: %v, %v, error %d; want %v, %v", first, second, more, left, e, want, wantLeft)
			}
		}
	}
}

// checkBack holds that Read of Write gives l again, and uses all bytes up.
func checkBack(t *testing.T, l []api.Id) {
	t.Helper()
	code, e := dots.Write(l)
	r := octet.New(code)
	if got := dots.Read(r); !slices.Equal(got, l) || e != api.OK || r.End() != nil {
		t.Fatalf("Read of Write of %v, % X: %v, error %d, %v", l, code, got, e, r.End())
	}
}

// TestBack: promise 7.3, Read of each Write gives the set again.
func TestBack(t *testing.T) {
	for _, l := range subsets(ids(t, "0.1 0.255 0.256 1.1 2.300 3.65535 3.65536 4.2 5.1048575 6.9 7.1 7.1048576")) {
		checkBack(t, l)
	}
	for n := 1; n <= api.MaxDots; n++ {
		checkBack(t, row(n))
	}
}

// short is the strings of up to n of these bytes.
func short(bytes string, n int) []string {
	out := []string{""}
	for from := 0; n > 0; n-- {
		to := len(out)
		for _, s := range out[from:to] {
			for _, b := range []byte(bytes) {
				out = append(out, s+string([]byte{b}))
			}
		}
		from = to
	}
	return out
}

// TestReadShortStrings: promise 7.3, all short strings of telling bytes: none but what Write returns is decoded.
func TestReadShortStrings(t *testing.T) {
	whole := 0
	for _, s := range short("\x00\x01\x02\x07\x08", 8) {
		r := octet.New(s)
		l := dots.Read(r)
		code, e := dots.Write(l)
		if e != api.OK || r.Err() == nil && code != s[:r.At()] || r.Err() != nil && len(l) > 0 {
			t.Errorf("% X is decoded to %v, which is encoded as % X, beside %v", s, l, code, r.Err())
		}
		if r.End() == nil {
			whole++
		}
	}
	if whole < 100 {
		t.Errorf("only %d of these are sets, too few to tell anything", whole)
	}
}
