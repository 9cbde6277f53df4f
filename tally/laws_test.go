package tally_test

import (
	"math"
	"math/big"
	"slices"
	"testing"

	"selkie/api"
	"selkie/tally"
)

// around is each of the values with its neighbours, and the least and the greatest value of the type.
func around[T int | int64 | uint32](least, most T, values ...T) []T {
	out := []T{least, least + 1, most - 1, most}
	for _, v := range values {
		out = append(out, v-1, v, v+1)
	}
	slices.Sort(out)
	return slices.Compact(out)
}

func counts() []uint32 {
	return around[uint32](0, math.MaxUint32, 2, 300, maxCount/3, maxCount/2, maxCount-3, maxCount, 1<<21, 1<<31)
}

func amounts() []int64 {
	return around[int64](math.MinInt64, math.MaxInt64, 0, 300, -300, maxAmount/2, -maxAmount/2, maxAmount, -maxAmount, 1<<62, -1<<62)
}

func sizes() []int {
	return around[int](math.MinInt, math.MaxInt, 0, 3, 300, 1<<20, 1<<24, 1<<32, maxSize/3, maxSize/2, maxSize, 1<<41, 1<<62)
}

// number is any integer without a bound.
func number[T int | int64 | uint32](v T) *big.Int {
	if v > 0 {
		return new(big.Int).SetUint64(uint64(v))
	}
	return big.NewInt(int64(v))
}

func between(least, most int64, v *big.Int) bool {
	return v.Cmp(big.NewInt(least)) >= 0 && v.Cmp(big.NewInt(most)) <= 0
}

// checkGrid holds f, for all pairs of values, against the same operation on integers without a bound.
func checkGrid[T int | int64 | uint32](t *testing.T, name string, values []T, least, most int64, f func(a, b T) (T, api.Errno), exact func(a, b *big.Int) *big.Int) {
	t.Helper()
	for _, a := range values {
		for _, b := range values {
			x, y := number(a), number(b)
			want, err := new(big.Int), api.ErrRange
			if between(least, most, x) && between(least, most, y) {
				if r := exact(x, y); r == nil {
					err = api.ErrRange
				} else if !between(least, most, r) {
					err = api.ErrOver
				} else {
					want, err = r, api.OK
				}
			}
			if got, e := f(a, b); number(got).Cmp(want) != 0 || e != err {
				t.Errorf("%s(%d, %d): %d, error %d; want %d, error %d", name, a, b, got, e, want, err)
			}
		}
	}
}

// TestExact: promises 1.1 and 1.2, P1 and P2: for any arguments, each function ends and returns the exact result, or the first error and 0.
func TestExact(t *testing.T) {
	add := func(a, b *big.Int) *big.Int { return new(big.Int).Add(a, b) }
	mul := func(a, b *big.Int) *big.Int { return new(big.Int).Mul(a, b) }
	ceil := func(a, b *big.Int) *big.Int {
		if b.Sign() == 0 {
			return nil
		}
		q, r := new(big.Int).QuoRem(a, b, new(big.Int))
		if r.Sign() > 0 {
			q.Add(q, big.NewInt(1))
		}
		return q
	}
	checkGrid(t, "Add", counts(), 0, maxCount, tally.Add, add)
	checkGrid(t, "Plus", amounts(), -maxAmount, maxAmount, tally.Plus, add)
	checkGrid(t, "Times", sizes(), 0, maxSize, tally.Times, mul)
	checkGrid(t, "Ceil", sizes(), 0, maxSize, tally.Ceil, ceil)
}

// TestNextIsAdd: promise 1.1, Next(a) is Add(a, 1).
func TestNextIsAdd(t *testing.T) {
	for _, a := range counts() {
		n, e := tally.Next(a)
		if m, f := tally.Add(a, 1); n != m || e != f {
			t.Errorf("Next(%d): %d, error %d; Add: %d, error %d", a, n, e, m, f)
		}
	}
}

// TestCeilSmallest: promise 1.2, the quotient is great enough, and one less is not.
func TestCeilSmallest(t *testing.T) {
	for a := range 120 {
		for b := 1; b < 120; b++ {
			q, e := tally.Ceil(a, b)
			if e != api.OK || q*b < a || q > 0 && (q-1)*b >= a || q < 0 {
				t.Errorf("Ceil(%d, %d): %d, error %d", a, b, q, e)
			}
		}
	}
}

// checkLaws holds f to be commutative and, where no error occurs, associative.
func checkLaws[T int64 | uint32](t *testing.T, name string, values []T, f func(a, b T) (T, api.Errno)) {
	t.Helper()
	held := 0
	for _, a := range values {
		for _, b := range values {
			x, e := f(a, b)
			if y, g := f(b, a); x != y || e != g {
				t.Errorf("%s(%d, %d): %d, error %d; the other way round %d, error %d", name, a, b, x, e, y, g)
			}
			for _, c := range values {
				if sameEitherWay(t, name, f, a, b, c) {
					held++
				}
			}
		}
	}
	if held == 0 {
		t.Errorf("%s: no three values were without an error", name)
	}
}

// sameEitherWay holds (a + b) + c against a + (b + c), and tells whether no error occurred.
func sameEitherWay[T int64 | uint32](t *testing.T, name string, f func(a, b T) (T, api.Errno), a, b, c T) bool {
	t.Helper()
	left, e1 := f(a, b)
	right, e2 := f(b, c)
	if e1 != api.OK || e2 != api.OK {
		return false
	}
	x, e3 := f(left, c)
	y, e4 := f(a, right)
	if e3 != api.OK || e4 != api.OK {
		return false
	}
	if x != y {
		t.Errorf("%s of %d, %d and %d: %d from the left, %d from the right", name, a, b, c, x, y)
	}
	return true
}

// TestLaws: promise 1.3, Add and Plus are commutative and associative.
func TestLaws(t *testing.T) {
	checkLaws(t, "Add", counts(), tally.Add)
	checkLaws(t, "Plus", amounts(), tally.Plus)
}

// TestAddAssociativeErrors: promise 1.3; counts are not negative, so (a + b) + c is without an error just if a + (b + c) is.
func TestAddAssociativeErrors(t *testing.T) {
	total := func(l ...uint32) api.Errno {
		_, e := tally.Sum(l)
		return e
	}
	for _, a := range counts() {
		for _, b := range counts() {
			for _, c := range counts() {
				if (total(a, b, c) == api.OK) != (total(c, b, a) == api.OK) {
					t.Errorf("%d, %d, %d: error %d; the other way round %d", a, b, c, total(a, b, c), total(c, b, a))
				}
			}
		}
	}
}

// lists are lists of counts: short and long, small and great, valid and not.
func lists() [][]uint32 {
	return [][]uint32{
		nil, {0}, {1}, {1, 2, 3}, {maxCount}, {maxCount - 1}, {maxCount, 0}, {0, maxCount / 2},
		{maxCount / 2, 1}, {300, 7, 0, 12}, many(31, 2), many(32, 3), many(33, 4), many(64, 5),
		many(64, maxCount/64), {maxCount + 1}, {math.MaxUint32, 1}, many(65, 0),
	}
}

// TestSumOfTwoLists: promise 1.3, the Sum of a concatenation is Add of the Sums, where no error occurs.
func TestSumOfTwoLists(t *testing.T) {
	held := 0
	for _, k := range lists() {
		for _, l := range lists() {
			whole, e := tally.Sum(slices.Concat(k, l))
			x, e1 := tally.Sum(k)
			y, e2 := tally.Sum(l)
			if e != api.OK || e1 != api.OK || e2 != api.OK {
				continue
			}
			held++
			if n, f := tally.Add(x, y); n != whole || f != api.OK {
				t.Errorf("%v and %v: Sum %d; Add of their Sums %d, error %d", k, l, whole, n, f)
			}
		}
	}
	if held < 30 {
		t.Errorf("only %d pairs of lists were without an error", held)
	}
}

// TestSumOfTwoListsErrors: promise 1.3; two valid lists of at most 64 elements together fail just if Add of their Sums does.
func TestSumOfTwoListsErrors(t *testing.T) {
	for _, k := range lists() {
		for _, l := range lists() {
			x, e1 := tally.Sum(k)
			y, e2 := tally.Sum(l)
			if e1 != api.OK || e2 != api.OK || len(k)+len(l) > 64 {
				continue
			}
			_, e := tally.Sum(slices.Concat(k, l))
			if _, f := tally.Add(x, y); e != f {
				t.Errorf("%v and %v: Sum has error %d, Add of their Sums %d", k, l, e, f)
			}
		}
	}
}
