package vec_test

import (
	"math"
	"testing"

	"selkie/api"
	"selkie/vec"
)

const maxCount = api.MaxCount

// elements are the least and the greatest counts, and values that are none; they increase.
func elements() []uint32 {
	return []uint32{0, 1, 2, 300, maxCount - 1, maxCount, maxCount + 1, 1 << 21, 1<<24 + 1, 1 << 31, math.MaxUint32}
}

// with is v with another element for an origin.
func with(v api.Vec, origin int, n uint32) api.Vec {
	v[origin] = n
	return v
}

// same is a vector that has n for each origin.
func same(n uint32) api.Vec {
	return api.Vec{n, n, n, n, n, n, n, n}
}

// grounds are vectors of counts in which single elements are changed.
func grounds() []api.Vec {
	return []api.Vec{{}, {1, 2, 3, 4, 5, 6, 7, 8}, {300, 0, 0, 1, 0, maxCount, 0, 2}, same(maxCount)}
}

// faulty are vectors of which an element, or several, is not a count; some would be if a part of their bits were left out.
func faulty() []api.Vec {
	out := []api.Vec{same(maxCount + 1), same(math.MaxUint32), {math.MaxUint32, 0, 0, 0, 0, 0, 0, maxCount + 1}}
	for _, ground := range grounds() {
		for origin := range ground {
			for _, n := range elements() {
				if n > maxCount {
					out = append(out, with(ground, origin, n))
				}
			}
		}
	}
	return out
}

// invalid are ids of which the Origin, the Seq or both are out of range.
func invalid() []api.Id {
	return []api.Id{
		{},
		{Origin: 7, Seq: 0},
		{Origin: -1, Seq: 1},
		{Origin: 8, Seq: 1},
		{Origin: 256, Seq: 1},
		{Origin: 1 << 32, Seq: 1},
		{Origin: math.MaxInt, Seq: 1},
		{Origin: math.MinInt, Seq: 1},
		{Origin: 0, Seq: maxCount + 1},
		{Origin: 3, Seq: maxCount + 1},
		{Origin: 7, Seq: maxCount + 1},
		{Origin: 0, Seq: 1<<24 + 1},
		{Origin: 0, Seq: math.MaxUint32},
		{Origin: -1, Seq: 0},
		{Origin: 8, Seq: maxCount + 1},
	}
}

// TestCheck: promise 6.1, Check, with each element at each end of what is a count, and beyond.
func TestCheck(t *testing.T) {
	for _, ground := range grounds() {
		for origin := range ground {
			for _, n := range elements() {
				want := api.OK
				if n > maxCount {
					want = api.ErrRange
				}
				if v := with(ground, origin, n); vec.Check(v) != want {
					t.Errorf("Check(%v): error %d; want %d", v, vec.Check(v), want)
				}
			}
		}
	}
	for _, v := range faulty() {
		if e := vec.Check(v); e != api.ErrRange {
			t.Errorf("Check(%v): error %d; want %d", v, e, api.ErrRange)
		}
	}
}

// checkPair holds the Join and the Meet of two vectors, whichever comes first, and whether one is LE the other.
func checkPair(t *testing.T, a, b, join, meet api.Vec, le, ge bool) {
	t.Helper()
	if got := vec.Join(a, b); got != join {
		t.Errorf("Join(%v, %v): %v; want %v", a, b, got, join)
	}
	if got := vec.Join(b, a); got != join {
		t.Errorf("Join(%v, %v): %v; want %v", b, a, got, join)
	}
	if got := vec.Meet(a, b); got != meet {
		t.Errorf("Meet(%v, %v): %v; want %v", a, b, got, meet)
	}
	if got := vec.Meet(b, a); got != meet {
		t.Errorf("Meet(%v, %v): %v; want %v", b, a, got, meet)
	}
	if got := vec.LE(a, b); got != le {
		t.Errorf("LE(%v, %v): %t; want %t", a, b, got, le)
	}
	if got := vec.LE(b, a); got != ge {
		t.Errorf("LE(%v, %v): %t; want %t", b, a, got, ge)
	}
}

// TestPairs: promise 6.1, LE, Join and Meet, with the chapter's example first.
func TestPairs(t *testing.T) {
	most := same(math.MaxUint32)
	for _, c := range []struct {
		a, b, join, meet api.Vec
		le, ge           bool
	}{
		{api.Vec{1, 2}, api.Vec{3}, api.Vec{3, 2}, api.Vec{1}, false, false},
		{api.Vec{}, api.Vec{}, api.Vec{}, api.Vec{}, true, true},
		{api.Vec{}, api.Vec{0, 0, 0, 0, 0, 0, 0, 1}, api.Vec{0, 0, 0, 0, 0, 0, 0, 1}, api.Vec{}, true, false},
		{api.Vec{1, 2, 3}, api.Vec{1, 2, 3}, api.Vec{1, 2, 3}, api.Vec{1, 2, 3}, true, true},
		{api.Vec{1, 2, 3}, api.Vec{1, 3, 3}, api.Vec{1, 3, 3}, api.Vec{1, 2, 3}, true, false},
		{api.Vec{1, 2, 3}, api.Vec{2, 3, 4, 1}, api.Vec{2, 3, 4, 1}, api.Vec{1, 2, 3}, true, false},
		{api.Vec{9, 1}, api.Vec{1, 10}, api.Vec{9, 10}, api.Vec{1, 1}, false, false},
		{api.Vec{1, 2, 3, 4, 5, 6, 7, 8}, api.Vec{8, 7, 6, 5, 4, 3, 2, 1}, api.Vec{8, 7, 6, 5, 5, 6, 7, 8}, api.Vec{1, 2, 3, 4, 4, 3, 2, 1}, false, false},
		{same(maxCount), api.Vec{maxCount + 1}, with(same(maxCount), 0, maxCount+1), api.Vec{maxCount}, false, false},
		{same(maxCount), same(maxCount + 1), same(maxCount + 1), same(maxCount), true, false},
		{api.Vec{}, most, most, api.Vec{}, true, false},
		{most, most, most, most, true, true},
		{same(math.MaxInt32), same(1 << 31), same(1 << 31), same(math.MaxInt32), true, false},
	} {
		checkPair(t, c.a, c.b, c.join, c.meet, c.le, c.ge)
	}
}

// TestPairsOfElements: promise 6.1, each pair of elements for each origin: no other element counts, nor whether they are counts.
func TestPairsOfElements(t *testing.T) {
	for _, ground := range append(grounds(), same(math.MaxUint32)) {
		for origin := range ground {
			for i, less := range elements() {
				for _, more := range elements()[i:] {
					a, b := with(ground, origin, less), with(ground, origin, more)
					checkPair(t, a, b, b, a, true, less == more)
				}
			}
		}
	}
}

// TestPairsCrossed: promise 6.1, one origin has more in a, and another one more in b.
func TestPairsCrossed(t *testing.T) {
	for _, ground := range grounds() {
		for one := range ground {
			for other := range ground {
				if one == other {
					continue
				}
				less := with(with(ground, one, 1), other, 0)
				a, b := with(less, one, 2), with(less, other, math.MaxUint32)
				checkPair(t, a, b, with(a, other, math.MaxUint32), less, false, false)
			}
		}
	}
}

// TestHas: promise 6.2, the ids around what is within: all up to it are, the next one and those behind it are not.
func TestHas(t *testing.T) {
	for _, ground := range grounds() {
		for origin := range ground {
			for _, n := range []uint32{0, 1, 2, 7, 300, maxCount - 1, maxCount} {
				v := with(ground, origin, n)
				for _, seq := range []uint32{1, 2, n / 2, n - 1, n, n + 1, n + 2, 2 * n, maxCount - 1, maxCount} {
					id := api.Id{Origin: origin, Seq: seq}
					want := seq >= 1 && seq <= n && seq <= maxCount
					if got := vec.Has(v, id); got != want {
						t.Errorf("Has(%v, %v): %t; want %t", v, id, got, want)
					}
				}
			}
		}
	}
}

// TestHasFaulty: promise 6.2, no id that is not valid is within, however great the elements are; a valid one may be within a vector that is not valid.
func TestHasFaulty(t *testing.T) {
	for _, v := range append(faulty(), grounds()...) {
		for _, id := range invalid() {
			if vec.Has(v, id) {
				t.Errorf("Has(%v, %v): true; want false", v, id)
			}
		}
	}
	v := api.Vec{maxCount + 1, 0, 5, 0, 0, 0, 0, math.MaxUint32}
	for _, id := range []api.Id{{Seq: 1}, {Seq: maxCount}, {Origin: 2, Seq: 5}, {Origin: 7, Seq: 1}, {Origin: 7, Seq: maxCount}} {
		if !vec.Has(v, id) {
			t.Errorf("Has(%v, %v): false; want true", v, id)
		}
	}
	for _, id := range []api.Id{{Origin: 1, Seq: 1}, {Origin: 2, Seq: 6}, {Origin: 6, Seq: maxCount}} {
		if vec.Has(v, id) {
			t.Errorf("Has(%v, %v): true; want false", v, id)
		}
	}
}

// checkNext holds what Next returns: the id is the zero one beside an error.
func checkNext(t *testing.T, v api.Vec, origin int, want api.Id, e api.Errno) {
	t.Helper()
	if id, got := vec.Next(v, origin); id != want || got != e {
		t.Errorf("Next(%v, %d): %v, error %d; want %v, error %d", v, origin, id, got, want, e)
	}
}

// TestNext: promise 6.2, the next id of each origin, whatever the others have; there is none behind MaxCount.
func TestNext(t *testing.T) {
	for _, ground := range grounds() {
		for origin := range ground {
			for _, n := range []uint32{0, 1, 2, 255, 300, maxCount - 2, maxCount - 1} {
				checkNext(t, with(ground, origin, n), origin, api.Id{Origin: origin, Seq: n + 1}, api.OK)
			}
			checkNext(t, with(ground, origin, maxCount), origin, api.Id{}, api.ErrOver)
		}
	}
}

// TestNextErrors: promise 6.2, a vector that is not valid and an origin that is none come before an origin that has no next transaction.
func TestNextErrors(t *testing.T) {
	for _, origin := range []int{-1, 8, 9, 256, 1 << 32, math.MaxInt, math.MinInt, math.MinInt + 7} {
		for _, v := range append(faulty(), grounds()...) {
			checkNext(t, v, origin, api.Id{}, api.ErrRange)
		}
	}
	for _, v := range faulty() {
		for origin := range v {
			checkNext(t, v, origin, api.Id{}, api.ErrRange)
		}
	}
}

// checkTake holds what Take returns: the vector is the zero one beside an error.
func checkTake(t *testing.T, v api.Vec, id api.Id, want api.Vec, e api.Errno) {
	t.Helper()
	if got, code := vec.Take(v, id); got != want || code != e {
		t.Errorf("Take(%v, %v): %v, error %d; want %v, error %d", v, id, got, code, want, e)
	}
}

// TestTake: promise 6.2, the chapter's examples, and around what is within for each origin.
func TestTake(t *testing.T) {
	checkTake(t, api.Vec{0, 2}, api.Id{Origin: 1, Seq: 3}, api.Vec{0, 3}, api.OK)
	checkTake(t, api.Vec{0, 2}, api.Id{Origin: 1, Seq: 4}, api.Vec{}, api.ErrGap)
	checkTake(t, api.Vec{0, 2}, api.Id{Origin: 1, Seq: 2}, api.Vec{}, api.ErrTwice)
	for _, ground := range grounds() {
		for origin := range ground {
			for _, n := range []uint32{0, 1, 2, 255, 300, maxCount - 1, maxCount} {
				checkTakes(t, with(ground, origin, n), origin)
			}
		}
	}
}

// checkTakes holds what Take returns for the ids of an origin: those within v, the next one, and those behind it.
func checkTakes(t *testing.T, v api.Vec, origin int) {
	t.Helper()
	n := v[origin]
	for _, seq := range []uint32{1, 2, n / 2, n - 1, n, n + 1, n + 2, n + 3, 2 * n, n + 257, n + 1<<16, maxCount - 1, maxCount} {
		id := api.Id{Origin: origin, Seq: seq}
		switch {
		case seq < 1 || seq > maxCount:
			checkTake(t, v, id, api.Vec{}, api.ErrRange)
		case seq <= n:
			checkTake(t, v, id, api.Vec{}, api.ErrTwice)
		case seq == n+1:
			checkTake(t, v, id, with(v, origin, seq), api.OK)
		default:
			checkTake(t, v, id, api.Vec{}, api.ErrGap)
		}
	}
}

// TestTakeErrors: promise 6.2, a vector or an id that is not valid comes before an id that is within, or behind a gap.
func TestTakeErrors(t *testing.T) {
	for _, v := range faulty() {
		for origin, n := range v {
			// Ids that would be within, next, or behind a gap.
			for _, seq := range []uint32{1, n, n + 1, n + 2, maxCount} {
				checkTake(t, v, api.Id{Origin: origin, Seq: seq}, api.Vec{}, api.ErrRange)
			}
		}
		for _, id := range invalid() {
			checkTake(t, v, id, api.Vec{}, api.ErrRange)
		}
	}
	for _, v := range grounds() {
		for _, id := range invalid() {
			checkTake(t, v, id, api.Vec{}, api.ErrRange)
		}
	}
}

// TestTotal: promise 6.2, all elements count, each once, also where they are no counts and their sum is beyond 32 bits.
func TestTotal(t *testing.T) {
	for _, c := range []struct {
		v    api.Vec
		want uint64
	}{
		{api.Vec{}, 0},
		{api.Vec{1}, 1},
		{api.Vec{0, 2}, 2},
		{api.Vec{1, 20, 300, 4000, 50000, 600000, 700000, 800000}, 2154321},
		{api.Vec{1, 10, 100, 1000, 10000, 100000, 1000000, 10000000}, 11111111},
		{same(1), 8},
		{same(maxCount), 8 << 20},
		{same(maxCount + 1), 8<<20 + 8},
		{api.Vec{math.MaxUint32, 1}, 1 << 32},
		{same(math.MaxUint32), 8 * math.MaxUint32},
	} {
		if got := vec.Total(c.v); got != c.want {
			t.Errorf("Total(%v): %d; want %d", c.v, got, c.want)
		}
	}
	for origin := range api.MaxOrigins {
		for _, n := range elements() {
			if got := vec.Total(with(api.Vec{}, origin, n)); got != uint64(n) {
				t.Errorf("Total of %d for %d: %d", n, origin, got)
			}
		}
	}
}
