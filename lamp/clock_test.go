package lamp_test

import (
	"math"
	"testing"

	"selkie/api"
	"selkie/lamp"
)

// newClock is a clock of a valid origin.
func newClock(t *testing.T, origin int) *lamp.Clock {
	t.Helper()
	c, e := lamp.New(origin)
	if c == nil || e != api.OK {
		t.Fatalf("New(%d): %v, error %d; want a clock", origin, c, e)
	}
	return c
}

// clockAt is a clock of an origin that has seen a time.
func clockAt(t *testing.T, origin int, time uint32) *lamp.Clock {
	t.Helper()
	c := newClock(t, origin)
	checkSee(t, c, api.Stamp{Time: time, Origin: 0}, api.OK, time)
	return c
}

// checkNow holds the clock's time, which asking does not change.
func checkNow(t *testing.T, name string, c *lamp.Clock, want uint32) {
	t.Helper()
	for range 2 {
		if got := c.Now(); got != want {
			t.Errorf("%s: Now %d; want %d", name, got, want)
		}
	}
}

// checkSee holds what See returns, and the clock's time then.
func checkSee(t *testing.T, c *lamp.Clock, s api.Stamp, want api.Errno, now uint32) {
	t.Helper()
	before := c.Now()
	if e := c.See(s); e != want || c.Now() != now {
		t.Errorf("See(%v) at time %d: error %d, Now %d; want error %d, Now %d", s, before, e, c.Now(), want, now)
	}
}

// checkNext holds what Next returns, and the clock's time then.
func checkNext(t *testing.T, c *lamp.Clock, want api.Stamp, e api.Errno, now uint32) {
	t.Helper()
	before := c.Now()
	if got, err := c.Next(); got != want || err != e || c.Now() != now {
		t.Errorf("Next at time %d: %v, error %d, Now %d; want %v, error %d, Now %d", before, got, err, c.Now(), want, e, now)
	}
}

// TestExample: the chapter's example.
func TestExample(t *testing.T) {
	c := newClock(t, 2)
	checkNext(t, c, api.Stamp{Time: 1, Origin: 2}, api.OK, 1)
	checkSee(t, c, api.Stamp{Time: 7, Origin: 5}, api.OK, 7)
	checkNext(t, c, api.Stamp{Time: 8, Origin: 2}, api.OK, 8)
}

// TestNew: promise 9.2, New, with an origin at each end of what is valid, and beyond.
func TestNew(t *testing.T) {
	for origin := range api.MaxOrigins {
		c := newClock(t, origin)
		checkNow(t, "a new clock", c, 0)
		checkNext(t, c, api.Stamp{Time: 1, Origin: origin}, api.OK, 1)
	}
	for _, origin := range invalidOrigins() {
		if c, e := lamp.New(origin); c != nil || e != api.ErrRange {
			t.Errorf("New(%d): %v, error %d; want no clock, error %d", origin, c, e, api.ErrRange)
		}
	}
}

// TestNewOwn: promise 9.2, two clocks of one origin are independent.
func TestNewOwn(t *testing.T) {
	a, b := newClock(t, 3), newClock(t, 3)
	checkNext(t, a, api.Stamp{Time: 1, Origin: 3}, api.OK, 1)
	checkSee(t, a, api.Stamp{Time: 300}, api.OK, 300)
	checkNow(t, "the other clock", b, 0)
	checkNext(t, b, api.Stamp{Time: 1, Origin: 3}, api.OK, 1)
}

// TestNow: promise 9.2, Now of a new clock, after See and after Next.
func TestNow(t *testing.T) {
	c := newClock(t, 7)
	checkNow(t, "a new clock", c, 0)
	checkSee(t, c, api.Stamp{Time: 5, Origin: 1}, api.OK, 5)
	checkNow(t, "after See", c, 5)
	checkNext(t, c, api.Stamp{Time: 6, Origin: 7}, api.OK, 6)
	checkNow(t, "after Next", c, 6)
}

// TestSee: promise 9.2, See of stamps below, at and above the time, of each origin: their Time alone counts.
func TestSee(t *testing.T) {
	for _, now := range []uint32{0, 1, 7, 300, maxCount - 1, maxCount} {
		for _, time := range []uint32{0, 1, 6, 7, 8, 299, 300, 301, 65536, maxCount - 1, maxCount} {
			for origin := range api.MaxOrigins {
				c := clockAt(t, 3, now)
				s := api.Stamp{Time: time, Origin: origin}
				checkSee(t, c, s, api.OK, max(now, time))
				checkSee(t, c, s, api.OK, max(now, time))
			}
		}
	}
}

// TestSeeInvalid: promise 9.2, See of a stamp that is not valid returns the error of Check and leaves the time.
func TestSeeInvalid(t *testing.T) {
	for _, now := range []uint32{0, 1, 300, maxCount} {
		c := clockAt(t, 3, now)
		for _, s := range invalid() {
			checkSee(t, c, s, api.ErrRange, now)
		}
	}
}

// TestSeeLeavesOrigin: promise 9.2, what a clock has seen does not change the origin of what it issues.
func TestSeeLeavesOrigin(t *testing.T) {
	for own := range api.MaxOrigins {
		c := newClock(t, own)
		for origin := range api.MaxOrigins {
			time := uint32(10 * (origin + 1))
			checkSee(t, c, api.Stamp{Time: time, Origin: origin}, api.OK, time)
			checkNext(t, c, api.Stamp{Time: time + 1, Origin: own}, api.OK, time+1)
		}
		for _, s := range invalid() {
			checkSee(t, c, s, api.ErrRange, 81)
		}
		checkNext(t, c, api.Stamp{Time: 82, Origin: own}, api.OK, 82)
	}
}

// TestNext: promise 9.2, Next up to the greatest time; there it returns ErrOver, and the time stays.
func TestNext(t *testing.T) {
	for origin := range api.MaxOrigins {
		for _, now := range []uint32{0, 1, 254, 255, 65535, maxCount - 2, maxCount - 1} {
			checkNext(t, clockAt(t, origin, now), api.Stamp{Time: now + 1, Origin: origin}, api.OK, now+1)
		}
		c := clockAt(t, origin, maxCount-1)
		checkNext(t, c, api.Stamp{Time: maxCount, Origin: origin}, api.OK, maxCount)
		for range 3 {
			checkNext(t, c, api.Stamp{}, api.ErrOver, maxCount)
		}
		checkNext(t, clockAt(t, origin, maxCount), api.Stamp{}, api.ErrOver, maxCount)
	}
}

// TestOver: promise 9.2, at the greatest time See still returns its errors, and the time stays.
func TestOver(t *testing.T) {
	c := clockAt(t, 4, maxCount)
	checkNext(t, c, api.Stamp{}, api.ErrOver, maxCount)
	checkSee(t, c, api.Stamp{Time: 1, Origin: 1}, api.OK, maxCount)
	checkSee(t, c, api.Stamp{Time: maxCount, Origin: 7}, api.OK, maxCount)
	checkSee(t, c, api.Stamp{Time: maxCount + 1, Origin: 7}, api.ErrRange, maxCount)
	checkNext(t, c, api.Stamp{}, api.ErrOver, maxCount)
}

// TestCopy: promise 9.2, Copy has the same origin and time; then neither of the two clocks changes with the other.
func TestCopy(t *testing.T) {
	for origin := range api.MaxOrigins {
		for _, now := range []uint32{0, 1, 300, maxCount - 9} {
			for copied := range 2 {
				c := clockAt(t, origin, now)
				other := c.Copy()
				checkNow(t, "the clock that was copied", c, now)
				checkNow(t, "the copy", other, now)
				if copied == 1 {
					c, other = other, c
				}
				checkNext(t, c, api.Stamp{Time: now + 1, Origin: origin}, api.OK, now+1)
				checkSee(t, c, api.Stamp{Time: now + 5, Origin: 0}, api.OK, now+5)
				checkNow(t, "the other clock", other, now)
				checkNext(t, other, api.Stamp{Time: now + 1, Origin: origin}, api.OK, now+1)
				checkSee(t, other, api.Stamp{Time: now + 3, Origin: 7}, api.OK, now+3)
				checkNext(t, c, api.Stamp{Time: now + 6, Origin: origin}, api.OK, now+6)
				checkNow(t, "the other clock", other, now+3)
			}
		}
	}
}

// TestCopyOver: promise 9.2, a copy of a clock at the greatest time, and a copy of a copy.
func TestCopyOver(t *testing.T) {
	c := clockAt(t, 6, maxCount-1)
	other := c.Copy().Copy()
	checkNext(t, c, api.Stamp{Time: maxCount, Origin: 6}, api.OK, maxCount)
	over := c.Copy()
	checkNext(t, over, api.Stamp{}, api.ErrOver, maxCount)
	checkNext(t, other, api.Stamp{Time: maxCount, Origin: 6}, api.OK, maxCount)
}

// TestNilClock: P1, the methods end on a nil Clock, which New returns beside an error: it keeps nothing and issues nothing.
func TestNilClock(t *testing.T) {
	c, e := lamp.New(math.MinInt)
	if c != nil || e != api.ErrRange {
		t.Fatalf("New(%d): %v, error %d", math.MinInt, c, e)
	}
	for range 2 {
		checkNow(t, "a nil Clock", c, 0)
		checkSee(t, c, api.Stamp{Time: 7, Origin: 1}, api.ErrRange, 0)
		checkSee(t, c, api.Stamp{Time: maxCount + 1}, api.ErrRange, 0)
		checkNext(t, c, api.Stamp{}, api.ErrRange, 0)
	}
	if other := c.Copy(); other != nil {
		t.Errorf("Copy of a nil Clock: %v; want nil", other)
	}
}

// TestZeroClock: P1, the methods end on a zero Clock, which is a new one of origin 0.
func TestZeroClock(t *testing.T) {
	c := &lamp.Clock{}
	checkNow(t, "a zero Clock", c, 0)
	other := c.Copy()
	checkSee(t, c, api.Stamp{Time: 7, Origin: 1}, api.OK, 7)
	checkNext(t, c, api.Stamp{Time: 8, Origin: 0}, api.OK, 8)
	checkNow(t, "a copy of a zero Clock", other, 0)
}
