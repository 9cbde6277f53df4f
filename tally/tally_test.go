package tally_test

import (
	"math"
	"slices"
	"testing"

	"selkie/api"
	"selkie/tally"
)

const (
	maxCount  = api.MaxCount
	maxAmount = 1 << 50
	maxSize   = 1 << 40
)

// pair is the two arguments of a call, and what it must return.
type pair[T any] struct {
	a, b, want T
	err        api.Errno
}

// checkPairs calls f with each pair of arguments.
func checkPairs[T comparable](t *testing.T, name string, f func(a, b T) (T, api.Errno), rows []pair[T]) {
	t.Helper()
	for _, r := range rows {
		if got, e := f(r.a, r.b); got != r.want || e != r.err {
			t.Errorf("%s(%v, %v): %v, error %d; want %v, error %d", name, r.a, r.b, got, e, r.want, r.err)
		}
	}
}

// TestAdd: promise 1.1, Add.
func TestAdd(t *testing.T) {
	checkPairs(t, "Add", tally.Add, []pair[uint32]{
		{0, 0, 0, api.OK},
		{1, 2, 3, api.OK},
		{300, 0, 300, api.OK},
		{0, maxCount, maxCount, api.OK},
		{maxCount, 0, maxCount, api.OK},
		{maxCount - 1, 1, maxCount, api.OK},
		{maxCount / 2, maxCount / 2, maxCount, api.OK},
		{maxCount, 1, 0, api.ErrOver},
		{1, maxCount, 0, api.ErrOver},
		{maxCount/2 + 1, maxCount / 2, 0, api.ErrOver},
		{maxCount, maxCount, 0, api.ErrOver},
		{maxCount + 1, 0, 0, api.ErrRange},
		{0, maxCount + 1, 0, api.ErrRange},
		{math.MaxUint32, 0, 0, api.ErrRange},
		{0, math.MaxUint32, 0, api.ErrRange},
	})
}

// TestAddRangeFirst: promise 1.1, an argument out of range comes before a sum that is none, or that wraps round to a count.
func TestAddRangeFirst(t *testing.T) {
	checkPairs(t, "Add", tally.Add, []pair[uint32]{
		{maxCount, maxCount + 1, 0, api.ErrRange},
		{maxCount + 1, maxCount, 0, api.ErrRange},
		{maxCount + 1, maxCount + 1, 0, api.ErrRange},
		{math.MaxUint32, 1, 0, api.ErrRange},
		{1, math.MaxUint32, 0, api.ErrRange},
		{math.MaxUint32, math.MaxUint32, 0, api.ErrRange},
		{1 << 31, 1 << 31, 0, api.ErrRange},
	})
}

// TestNext: promise 1.1, Next.
func TestNext(t *testing.T) {
	for _, r := range []struct {
		a, want uint32
		err     api.Errno
	}{
		{0, 1, api.OK},
		{41, 42, api.OK},
		{maxCount - 1, maxCount, api.OK},
		{maxCount, 0, api.ErrOver},
		{maxCount + 1, 0, api.ErrRange},
		{math.MaxUint32, 0, api.ErrRange},
	} {
		if got, e := tally.Next(r.a); got != r.want || e != r.err {
			t.Errorf("Next(%d): %d, error %d; want %d, error %d", r.a, got, e, r.want, r.err)
		}
	}
}

// many is a list of n equal counts.
func many(n int, v uint32) []uint32 {
	return slices.Repeat([]uint32{v}, n)
}

// TestSum: promise 1.1, Sum.
func TestSum(t *testing.T) {
	for _, r := range []struct {
		name string
		l    []uint32
		want uint32
		err  api.Errno
	}{
		{"nil", nil, 0, api.OK},
		{"empty", []uint32{}, 0, api.OK},
		{"one", []uint32{7}, 7, api.OK},
		{"several", []uint32{1, 2, 3}, 6, api.OK},
		{"the last counts", []uint32{0, 0, 5}, 5, api.OK},
		{"greatest", []uint32{maxCount}, maxCount, api.OK},
		{"greatest and noughts", []uint32{0, maxCount, 0}, maxCount, api.OK},
		{"greatest in parts", []uint32{maxCount - 2, 1, 1}, maxCount, api.OK},
		{"64 noughts", many(64, 0), 0, api.OK},
		{"64 ones", many(64, 1), 64, api.OK},
		{"64 up to the bound", many(64, maxCount/64), maxCount, api.OK},
		{"64 beyond the bound", many(64, maxCount/64+1), 0, api.ErrOver},
		{"over by one", []uint32{maxCount, 1}, 0, api.ErrOver},
		{"over in the middle", []uint32{1, maxCount, 0}, 0, api.ErrOver},
		{"one beyond", []uint32{maxCount + 1}, 0, api.ErrRange},
		{"no count at the end", []uint32{1, 2, math.MaxUint32}, 0, api.ErrRange},
		{"wraps round", []uint32{1, math.MaxUint32}, 0, api.ErrRange},
	} {
		if got, e := tally.Sum(r.l); got != r.want || e != r.err {
			t.Errorf("%s: %d, error %d; want %d, error %d", r.name, got, e, r.want, r.err)
		}
	}
}

// TestSumFirstError: promise 1.1, the length is checked ahead of the elements, and of these the first that fails is told.
func TestSumFirstError(t *testing.T) {
	for _, r := range []struct {
		name string
		l    []uint32
		err  api.Errno
	}{
		{"65 noughts", many(65, 0), api.ErrLong},
		{"65 that go over", many(65, maxCount), api.ErrLong},
		{"65 that are no counts", many(65, maxCount+1), api.ErrLong},
		{"very many", many(100000, 1), api.ErrLong},
		{"over, then no count", []uint32{maxCount, 1, maxCount + 1}, api.ErrOver},
		{"no count, then over", []uint32{maxCount + 1, maxCount, maxCount}, api.ErrRange},
		{"no count that goes over", []uint32{maxCount, maxCount + 1}, api.ErrRange},
		{"64 with no count at the end", append(many(63, 0), maxCount+1), api.ErrRange},
		{"64 that go over at the end", append(many(63, 1), maxCount), api.ErrOver},
	} {
		if got, e := tally.Sum(r.l); got != 0 || e != r.err {
			t.Errorf("%s: %d, error %d; want 0, error %d", r.name, got, e, r.err)
		}
	}
}

// TestSumLeavesList: a list that is passed is not modified, and what lies behind it is not read.
func TestSumLeavesList(t *testing.T) {
	for _, whole := range [][]uint32{
		append([]uint32{1, 2, 3}, many(97, 9)...),
		append([]uint32{maxCount, 1, 3}, many(97, 9)...),
	} {
		before := slices.Clone(whole)
		first, e := tally.Sum(whole[:3])
		if !slices.Equal(whole, before) {
			t.Errorf("Sum(%v) modified it", before[:3])
		}
		if again, f := tally.Sum(whole[:3]); again != first || f != e {
			t.Errorf("Sum(%v) twice: %d, error %d, then %d, error %d", before[:3], first, e, again, f)
		}
	}
	if n, e := tally.Sum(many(100, 9)[:64]); n != 576 || e != api.OK {
		t.Errorf("64 of 100: %d, error %d", n, e)
	}
}

// TestPlus: promise 1.2, Plus.
func TestPlus(t *testing.T) {
	checkPairs(t, "Plus", tally.Plus, []pair[int64]{
		{0, 0, 0, api.OK},
		{1, 2, 3, api.OK},
		{5, -7, -2, api.OK},
		{-5, 7, 2, api.OK},
		{-5, -7, -12, api.OK},
		{maxAmount, 0, maxAmount, api.OK},
		{0, -maxAmount, -maxAmount, api.OK},
		{maxAmount - 1, 1, maxAmount, api.OK},
		{1 - maxAmount, -1, -maxAmount, api.OK},
		{maxAmount, -maxAmount, 0, api.OK},
		{-maxAmount, maxAmount, 0, api.OK},
		{maxAmount, 1, 0, api.ErrOver},
		{1, maxAmount, 0, api.ErrOver},
		{-maxAmount, -1, 0, api.ErrOver},
		{-1, -maxAmount, 0, api.ErrOver},
		{maxAmount, maxAmount, 0, api.ErrOver},
		{-maxAmount, -maxAmount, 0, api.ErrOver},
		{maxAmount + 1, 0, 0, api.ErrRange},
		{0, maxAmount + 1, 0, api.ErrRange},
		{-maxAmount - 1, 0, 0, api.ErrRange},
		{0, -maxAmount - 1, 0, api.ErrRange},
	})
}

// TestPlusRangeFirst: promise 1.2, an argument out of range comes first, whatever the sum is.
func TestPlusRangeFirst(t *testing.T) {
	checkPairs(t, "Plus", tally.Plus, []pair[int64]{
		{maxAmount + 1, -1, 0, api.ErrRange},
		{-1, maxAmount + 1, 0, api.ErrRange},
		{-maxAmount - 1, 1, 0, api.ErrRange},
		{maxAmount + 1, maxAmount, 0, api.ErrRange},
		{-maxAmount, -maxAmount - 1, 0, api.ErrRange},
		{math.MaxInt64, 1, 0, api.ErrRange},
		{math.MinInt64, -1, 0, api.ErrRange},
		{math.MaxInt64, math.MinInt64, 0, api.ErrRange},
		{math.MinInt64, math.MinInt64, 0, api.ErrRange},
		{math.MaxInt64, math.MaxInt64, 0, api.ErrRange},
	})
}

// TestTimes: promise 1.2, Times.
func TestTimes(t *testing.T) {
	checkPairs(t, "Times", tally.Times, []pair[int]{
		{0, 0, 0, api.OK},
		{6, 7, 42, api.OK},
		{0, 9, 0, api.OK},
		{9, 0, 0, api.OK},
		{0, maxSize, 0, api.OK},
		{maxSize, 0, 0, api.OK},
		{1, maxSize, maxSize, api.OK},
		{maxSize, 1, maxSize, api.OK},
		{2, 1 << 39, maxSize, api.OK},
		{1 << 20, 1 << 20, maxSize, api.OK},
		{3, maxSize / 3, maxSize - 1, api.OK},
		{maxSize / 3, 3, maxSize - 1, api.OK},
		{3, maxSize/3 + 1, 0, api.ErrOver},
		{maxSize/3 + 1, 3, 0, api.ErrOver},
		{3, 1 << 39, 0, api.ErrOver},
		{1<<20 + 1, 1 << 20, 0, api.ErrOver},
		{2, maxSize, 0, api.ErrOver},
		{maxSize, 2, 0, api.ErrOver},
		// Products that wrap round to 0 and to a negative number.
		{1 << 32, 1 << 32, 0, api.ErrOver},
		{1 << 31, 1 << 32, 0, api.ErrOver},
		{maxSize, maxSize, 0, api.ErrOver},
		{maxSize + 1, 1, 0, api.ErrRange},
		{1, maxSize + 1, 0, api.ErrRange},
		{-1, 1, 0, api.ErrRange},
		{1, -1, 0, api.ErrRange},
	})
}

// TestTimesRangeFirst: promise 1.2, an argument out of range comes first, whatever the product is.
func TestTimesRangeFirst(t *testing.T) {
	checkPairs(t, "Times", tally.Times, []pair[int]{
		{0, maxSize + 1, 0, api.ErrRange},
		{maxSize + 1, 0, 0, api.ErrRange},
		{0, -1, 0, api.ErrRange},
		{-1, 0, 0, api.ErrRange},
		{-1, -1, 0, api.ErrRange},
		{maxSize, maxSize + 1, 0, api.ErrRange},
		{maxSize + 1, maxSize, 0, api.ErrRange},
		{maxSize, -1, 0, api.ErrRange},
		{math.MaxInt, math.MaxInt, 0, api.ErrRange},
		{math.MinInt, -1, 0, api.ErrRange},
		{math.MinInt, math.MinInt, 0, api.ErrRange},
	})
}

// TestCeil: promise 1.2, Ceil.
func TestCeil(t *testing.T) {
	checkPairs(t, "Ceil", tally.Ceil, []pair[int]{
		{0, 1, 0, api.OK},
		{0, maxSize, 0, api.OK},
		{1, 1, 1, api.OK},
		{6, 3, 2, api.OK},
		{7, 3, 3, api.OK},
		{8, 3, 3, api.OK},
		{9, 3, 3, api.OK},
		{1, 2, 1, api.OK},
		{1, maxSize, 1, api.OK},
		{maxSize - 1, maxSize, 1, api.OK},
		{maxSize, maxSize, 1, api.OK},
		{maxSize, maxSize - 1, 2, api.OK},
		{maxSize, 1, maxSize, api.OK},
		{maxSize, 2, 1 << 39, api.OK},
		{maxSize, 3, maxSize/3 + 1, api.OK},
		{1, 0, 0, api.ErrRange},
		{0, 0, 0, api.ErrRange},
		{maxSize, 0, 0, api.ErrRange},
		{maxSize + 1, 1, 0, api.ErrRange},
		{1, maxSize + 1, 0, api.ErrRange},
		{maxSize + 1, 0, 0, api.ErrRange},
		{-1, 1, 0, api.ErrRange},
		{1, -1, 0, api.ErrRange},
		{-1, 0, 0, api.ErrRange},
		{math.MaxInt, math.MaxInt, 0, api.ErrRange},
		{math.MinInt, -1, 0, api.ErrRange},
		{math.MinInt, 0, 0, api.ErrRange},
	})
}
