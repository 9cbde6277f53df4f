package vec_test

import (
	"math"
	"strconv"
	"strings"
	"testing"

	"selkie/api"
	"selkie/octet"
	"selkie/vec"
)

// combined is the vectors that have one of the values for each of these origins, and 0 for the others.
func combined(origins []int, values []uint32) []api.Vec {
	out := []api.Vec{{}}
	for _, origin := range origins {
		var more []api.Vec
		for _, v := range out {
			for _, n := range values {
				more = append(more, with(v, origin, n))
			}
		}
		out = more
	}
	return out
}

// pairable are vectors that are counts or not, of which many are LE another one and many are not.
func pairable() []api.Vec {
	out := combined([]int{0, 3, 7}, []uint32{0, 1, maxCount, maxCount + 1, math.MaxUint32})
	return append(append(out, grounds()...), same(1), same(math.MaxUint32), api.Vec{8, 7, 6, 5, 4, 3, 2, 1})
}

// TestPairsDefined: promise 6.1, LE, Join and Meet are what the chapter says of each element.
func TestPairsDefined(t *testing.T) {
	for _, a := range pairable() {
		for _, b := range pairable() {
			join, meet, le, ge := a, a, true, true
			for origin := range a {
				if a[origin] < b[origin] {
					join[origin], ge = b[origin], false
				}
				if a[origin] > b[origin] {
					meet[origin], le = b[origin], false
				}
			}
			checkPair(t, a, b, join, meet, le, ge)
		}
	}
}

// TestPartialOrder: promise 6.4, LE is reflexive, antisymmetric and transitive.
func TestPartialOrder(t *testing.T) {
	all := pairable()
	for _, a := range all {
		if !vec.LE(a, a) {
			t.Errorf("LE(%v, %v) is false", a, a)
		}
		for _, b := range all {
			if !vec.LE(a, b) {
				continue
			}
			if a != b && vec.LE(b, a) {
				t.Errorf("%v and %v are LE each other", a, b)
			}
			for _, c := range all {
				if vec.LE(b, c) && !vec.LE(a, c) {
					t.Errorf("%v, %v and %v are LE in order, but not the first and the last", a, b, c)
				}
			}
		}
	}
}

// TestBounds: promise 6.4, Join is the least upper bound, and Meet the greatest lower bound.
func TestBounds(t *testing.T) {
	all := pairable()
	for _, a := range all {
		for _, b := range all {
			join, meet := vec.Join(a, b), vec.Meet(a, b)
			if !vec.LE(a, join) || !vec.LE(b, join) || !vec.LE(meet, a) || !vec.LE(meet, b) {
				t.Errorf("%v and %v: Join %v or Meet %v is not a bound", a, b, join, meet)
			}
			for _, c := range all {
				if vec.LE(a, c) && vec.LE(b, c) != vec.LE(join, c) {
					t.Errorf("%v is above %v and %v, or their Join %v, but not both", c, a, b, join)
				}
				if vec.LE(c, a) && vec.LE(c, b) != vec.LE(c, meet) {
					t.Errorf("%v is below %v and %v, or their Meet %v, but not both", c, a, b, meet)
				}
			}
		}
	}
}

// takeNext is v extended by the next transaction of an origin; it holds how Next, Has, Take, LE and Total agree.
func takeNext(t *testing.T, v api.Vec, origin int) api.Vec {
	t.Helper()
	id, e := vec.Next(v, origin)
	if e != api.OK || vec.Has(v, id) {
		t.Fatalf("Next(%v, %d): %v, error %d", v, origin, id, e)
	}
	more, e := vec.Take(v, id)
	if e != api.OK || !vec.Has(more, id) || vec.Total(more) != vec.Total(v)+1 || !vec.LE(v, more) || vec.LE(more, v) {
		t.Fatalf("Take(%v, %v): %v, error %d", v, id, more, e)
	}
	return more
}

// goals are vectors that Take is to reach.
func goals() []api.Vec {
	out := append(combined([]int{0, 1, 5, 7}, []uint32{0, 1, 2, 5}), grounds()...)
	return append(out, api.Vec{0, maxCount - 1}, api.Vec{0, 0, 0, 1000, 0, 65536})
}

// TestTakeAll: promise 6.4, each vector results from the zero vector by Take of the transactions of one origin after the other.
func TestTakeAll(t *testing.T) {
	for _, goal := range goals() {
		v := api.Vec{}
		for origin := range goal {
			for seq := uint32(1); seq <= goal[origin]; seq++ {
				var e api.Errno
				if v, e = vec.Take(v, api.Id{Origin: origin, Seq: seq}); e != api.OK {
					t.Fatalf("on the way to %v, Take of Seq %d for origin %d: error %d", goal, seq, origin, e)
				}
			}
		}
		if v != goal {
			t.Errorf("Take results in %v; want %v", v, goal)
		}
	}
}

// TestTakeMixed: promise 6.4, the transactions of different origins may be taken in any order.
func TestTakeMixed(t *testing.T) {
	for _, goal := range goals() {
		v := api.Vec{}
		// Of all origins in turn, backwards, until none lacks a transaction.
		for left := true; left; {
			left = false
			for origin := api.MaxOrigins - 1; origin >= 0; origin-- {
				if v[origin] < goal[origin] {
					v, left = takeNext(t, v, origin), true
				}
			}
		}
		if v != goal {
			t.Errorf("Take results in %v; want %v", v, goal)
		}
	}
}

// checkBack holds that Read of Write gives v again, and uses all bytes up.
func checkBack(t *testing.T, v api.Vec) {
	t.Helper()
	r := octet.New(vec.Write(v))
	if got := vec.Read(r); got != v || r.End() != nil {
		t.Fatalf("Read of Write of %v, % X: %v, %v", v, vec.Write(v), got, r.End())
	}
}

// TestBack: promise 6.3, Read of each Write gives the vector again.
func TestBack(t *testing.T) {
	for _, v := range combined([]int{0, 1, 2, 3, 4, 5, 6, 7}, []uint32{0, 1, 300, maxCount}) {
		checkBack(t, v)
	}
}

// TestBackCounts: promise 6.3, the same for all counts of each origin.
func TestBackCounts(t *testing.T) {
	for origin := range api.MaxOrigins {
		t.Run(strconv.Itoa(origin), func(t *testing.T) {
			t.Parallel()
			for n := range uint32(maxCount + 1) {
				checkBack(t, with(api.Vec{}, origin, n))
			}
		})
	}
}

// TestTextDefined: promise 6.3, Text is what the chapter says: without trailing zero elements, but with all elements before them.
func TestTextDefined(t *testing.T) {
	for _, v := range combined([]int{0, 1, 2, 3, 4, 5, 6, 7}, []uint32{0, 10, math.MaxUint32}) {
		text := vec.Text(v)
		if v == (api.Vec{}) {
			continue
		}
		words := strings.Split(text, ",")
		if words[len(words)-1] == "0" || len(words) > api.MaxOrigins {
			t.Fatalf("Text(%v): %q", v, text)
		}
		var back api.Vec
		for origin, word := range words {
			n, err := strconv.ParseUint(word, 10, 32)
			if err != nil || word != strconv.FormatUint(n, 10) {
				t.Fatalf("Text(%v): %q", v, text)
			}
			back[origin] = uint32(n)
		}
		if back != v {
			t.Fatalf("Text(%v): %q", v, text)
		}
	}
}

// short is the strings of up to n of these bytes.
func short(bytes string, n int) []string {
	out := []string{""}
	for from := 0; n > 0; n-- {
		to := len(out)
		for _, s := range out[from:to] {
			for _, b := range []byte(bytes) {
				out = append(out, s+string([]byte{b}))
			}
		}
		from = to
	}
	return out
}

// TestReadShortStrings: promise 6.3, all short strings of telling bytes: none but what Write returns is decoded.
func TestReadShortStrings(t *testing.T) {
	whole := 0
	for _, s := range short("\x00\x01\x02\x03\x08\x09\x10", 7) {
		r := octet.New(s)
		v := vec.Read(r)
		if r.Err() == nil && vec.Write(v) != s[:r.At()] || r.Err() != nil && v != (api.Vec{}) {
			t.Errorf("% X is decoded to %v, which is encoded as % X, beside %v", s, v, vec.Write(v), r.Err())
		}
		if vec.Check(v) != api.OK {
			t.Errorf("% X is decoded to %v, of which an element is not a count", s, v)
		}
		if r.End() == nil {
			whole++
		}
	}
	if whole < 100 {
		t.Errorf("only %d of these are vectors, too few to tell anything", whole)
	}
}
