package lamp_test

import (
	"testing"

	"selkie/api"
	"selkie/lamp"
)

// steps are what is done with a clock: 0 and 1 are Next, and Next of a copy that is dropped; the others are See of a stamp.
func steps() []api.Stamp {
	return []api.Stamp{
		{},
		{},
		{Time: 0, Origin: 7},
		{Time: 1, Origin: 0},
		{Time: 1, Origin: 2},
		{Time: 2, Origin: 7},
		{Time: 4, Origin: 3},
		{Time: maxCount - 2, Origin: 7},
		{Time: maxCount - 1, Origin: 0},
		{Time: maxCount, Origin: 2},
		{Time: maxCount + 1, Origin: 1},
		{Time: 9, Origin: 8},
	}
}

// history is a clock and the greatest stamp that it has seen or issued.
type history struct {
	clock    *lamp.Clock
	greatest api.Stamp
}

// take performs a step, and holds that what Next issues is greater than all before, or that the greatest Time has come.
func (h *history) take(t *testing.T, origin, step int) {
	t.Helper()
	switch step {
	case 0:
		h.issue(t, origin)
	case 1:
		dropped := history{clock: h.clock.Copy(), greatest: h.greatest}
		dropped.issue(t, origin)
	default:
		s := steps()[step]
		if e := h.clock.See(s); e != lamp.Check(s) {
			t.Fatalf("See(%v): error %d; Check: error %d", s, e, lamp.Check(s))
		} else if e == api.OK && lamp.Compare(s, h.greatest) > 0 {
			h.greatest = s
		}
	}
	if now := h.clock.Now(); now != h.greatest.Time {
		t.Fatalf("Now: %d; the greatest stamp so far is %v", now, h.greatest)
	}
}

// issue holds what Next returns.
func (h *history) issue(t *testing.T, origin int) {
	t.Helper()
	s, e := h.clock.Next()
	if e == api.ErrOver && h.greatest.Time == maxCount && s == (api.Stamp{}) {
		return
	}
	if e != api.OK || lamp.Check(s) != api.OK || s.Origin != origin || lamp.Compare(s, h.greatest) != 1 {
		t.Fatalf("Next of origin %d: %v, error %d; the greatest stamp so far is %v", origin, s, e, h.greatest)
	}
	h.greatest = s
}

// TestNextGreater: promise 9.3, in all short runs Next returns a stamp greater than every one that the clock has seen or issued.
func TestNextGreater(t *testing.T) {
	const length = 5
	runs := 1
	for range length {
		runs *= len(steps())
	}
	for _, origin := range []int{0, 2, 7} {
		for run := range runs {
			h, rest := history{clock: newClock(t, origin)}, run
			for range length {
				h.take(t, origin, rest%len(steps()))
				rest /= len(steps())
			}
			h.issue(t, origin)
		}
	}
}

// TestNextAll: promise 9.3, a clock issues one stamp of each Time but 0, in order, and then no more.
func TestNextAll(t *testing.T) {
	c := newClock(t, 5)
	last := api.Stamp{Time: 0, Origin: 7}
	for time := uint32(1); time <= maxCount; time++ {
		s, e := c.Next()
		if s != (api.Stamp{Time: time, Origin: 5}) || e != api.OK || lamp.Compare(last, s) != -1 {
			t.Fatalf("Next behind %v: %v, error %d", last, s, e)
		}
		last = s
	}
	checkNext(t, c, api.Stamp{}, api.ErrOver, maxCount)
}

// TestIssuedOnce: promise 9.3, clocks of different origins that see each other's stamps, in turn or out of it, never issue the same one.
func TestIssuedOnce(t *testing.T) {
	var clocks [api.MaxOrigins]*lamp.Clock
	for origin := range clocks {
		clocks[origin] = newClock(t, origin)
	}
	issued := map[api.Stamp]bool{}
	for round := range 2000 {
		for origin, c := range clocks {
			s, e := c.Next()
			if e != api.OK || issued[s] {
				t.Fatalf("Next of origin %d: %v, error %d; issued before: %v", origin, s, e, issued[s])
			}
			issued[s] = true
			// Some clocks stay behind, so that the same Times come from many origins.
			if other := (origin*3 + round) % api.MaxOrigins; round%5 < origin {
				checkSee(t, clocks[other], s, api.OK, max(clocks[other].Now(), s.Time))
			}
		}
	}
	shared := 0
	for s := range issued {
		if issued[api.Stamp{Time: s.Time, Origin: (s.Origin + 1) % api.MaxOrigins}] {
			shared++
		}
	}
	if shared < 1000 {
		t.Errorf("only %d stamps have the Time of the next origin's, too few to tell anything", shared)
	}
}

// anyStamps are stamps with any field values, in no order.
func anyStamps() []api.Stamp {
	out := invalid()
	for _, k := range knowns() {
		out = append(out, k.s)
	}
	return out
}

// TestOrder: promise 9.1, Compare is a total order, in which only equal stamps are equal.
func TestOrder(t *testing.T) {
	all := anyStamps()
	for _, a := range all {
		for _, b := range all {
			c := lamp.Compare(a, b)
			if c < -1 || c > 1 || (c == 0) != (a == b) || lamp.Compare(b, a) != -c {
				t.Fatalf("Compare(%v, %v): %d; the other way round %d", a, b, c, lamp.Compare(b, a))
			}
			if c > 0 {
				continue
			}
			for _, d := range all {
				if lamp.Compare(b, d) <= 0 && lamp.Compare(a, d) > 0 {
					t.Fatalf("%v, %v and %v are in order, but not the first and the last", a, b, d)
				}
			}
		}
	}
}
