package cut_test

import (
	"slices"
	"testing"

	"selkie/api"
	"selkie/cut"
	"selkie/octet"
)

// subsets is all lists of some of these ids, in their order.
func subsets(all []api.Id) [][]api.Id {
	out := [][]api.Id{nil}
	for _, id := range all {
		for _, l := range out {
			out = append(out, append(slices.Clone(l), id))
		}
	}
	return out
}

// lists is all lists of up to n of these ids, in any order and repeated or not.
func lists(all []api.Id, n int) [][]api.Id {
	out := [][]api.Id{nil}
	for from := 0; n > 0; n-- {
		to := len(out)
		for _, l := range out[from:to] {
			for _, id := range all {
				out = append(out, append(slices.Clone(l), id))
			}
		}
		from = to
	}
	return out
}

// orders is all lists of each of these ids once.
func orders(all []api.Id) [][]api.Id {
	if len(all) == 0 {
		return [][]api.Id{nil}
	}
	var out [][]api.Id
	for i, id := range all {
		for _, l := range orders(slices.Delete(slices.Clone(all), i, i+1)) {
			out = append(out, append(l, id))
		}
	}
	return out
}

// sane tells whether id is valid, written out.
func sane(id api.Id) bool {
	return 0 <= id.Origin && id.Origin <= 7 && 1 <= id.Seq && id.Seq <= 1<<20
}

// in tells whether id is in l, written out.
func in(l []api.Id, id api.Id) bool {
	for _, x := range l {
		if x.Origin == id.Origin && x.Seq == id.Seq {
			return true
		}
	}
	return false
}

// checkOf is what Check returns of a valid vector and a short list, written out.
func checkOf(c cut.Cut) api.Errno {
	e := api.OK
	for i, id := range c.D {
		if !sane(id) {
			return api.ErrRange
		}
		rises := i == 0 || c.D[i-1].Origin < id.Origin || c.D[i-1].Origin == id.Origin && c.D[i-1].Seq < id.Seq
		if !rises || id.Seq <= c.V[id.Origin]+1 {
			e = api.ErrField
		}
	}
	return e
}

// world is some transactions, and the vectors within which there are some of them, beside those that all of these vectors have.
type world struct {
	all     []api.Id
	vectors []api.Vec
}

// worlds are the first transactions of two origins, and the last ones of two others.
func worlds(t *testing.T) []world {
	t.Helper()
	first := world{all: ids(t, "0.1 0.2 0.3 0.4 7.1 7.2 7.3")}
	for n := range uint32(20) {
		first.vectors = append(first.vectors, api.Vec{n % 5, 0, 0, 0, 0, 0, 0, n / 5})
	}
	last := world{all: ids(t, "2.1048573 2.1048574 2.1048575 2.1048576 3.1048575 3.1048576")}
	for n := range uint32(15) {
		last.vectors = append(last.vectors, api.Vec{0, 0, maxCount - 4 + n%5, maxCount - 2 + n/5})
	}
	return []world{first, last}
}

// knows is which transactions of a world c knows, written out: a bit for each.
func (w world) knows(c cut.Cut) uint {
	known := uint(0)
	for i, id := range w.all {
		if id.Seq <= c.V[id.Origin] || in(c.D, id) {
			known |= 1 << i
		}
	}
	return known
}

// cuts is all cuts of a world, by what they know.
func (w world) cuts(t *testing.T) []cut.Cut {
	t.Helper()
	found := 0
	out := make([]cut.Cut, 1<<len(w.all))
	for _, v := range w.vectors {
		for _, l := range subsets(w.all) {
			c := cut.Cut{V: v, D: l}
			if cut.Check(c) != checkOf(c) {
				t.Fatalf("Check of %v: error %d; want %d", c, cut.Check(c), checkOf(c))
			}
			if checkOf(c) == api.OK {
				out[w.knows(c)] = c
				found++
			}
		}
	}
	// As many as there are sets of transactions, so that each set below has been filled by one.
	if found != len(out) {
		t.Fatalf("%d cuts of %d transactions", found, len(w.all))
	}
	for known, c := range out {
		if w.knows(c) != uint(known) || cut.Check(c) != api.OK {
			t.Fatalf("no cut knows just %b", known)
		}
	}
	return out
}

// TestCanonical: promise 8.4, of all cuts of a world there is one for each set of transactions, and Make finds it, from whatever vector and list.
func TestCanonical(t *testing.T) {
	for _, w := range worlds(t) {
		all := w.cuts(t)
		for _, v := range w.vectors {
			for _, l := range subsets(w.all) {
				want := all[w.knows(cut.Cut{V: v, D: l})]
				for _, list := range [][]api.Id{l, backwards(l), append(backwards(l), l...)} {
					got, e := cut.Make(v, list)
					if !cut.Same(got, want) || e != api.OK || cut.Check(got) != api.OK {
						t.Fatalf("Make(%v, %v): %v, error %d; want %v", v, list, got, e, want)
					}
				}
			}
		}
	}
}

// TestSameKnown: promise 8.4, two cuts of a world are the same just if they know the same transactions.
func TestSameKnown(t *testing.T) {
	for _, w := range worlds(t) {
		for i, a := range w.cuts(t) {
			for j, b := range w.cuts(t) {
				if cut.Same(a, b) != (i == j) {
					t.Fatalf("Same(%v, %v): %t", a, b, i != j)
				}
			}
		}
	}
}

// TestPartialOrder: promises 8.2 and 8.4, LE is whether all that one cut of a world knows is known by the other: a partial order.
func TestPartialOrder(t *testing.T) {
	for _, w := range worlds(t) {
		all := w.cuts(t)
		le := make([][]bool, len(all))
		for i, a := range all {
			for j, b := range all {
				le[i] = append(le[i], cut.LE(a, b))
				if le[i][j] != (w.knows(a)&^w.knows(b) == 0) {
					t.Fatalf("LE(%v, %v): %t", a, b, le[i][j])
				}
			}
		}
		checkOrder(t, all, le)
	}
}

// checkOrder holds that le is reflexive, antisymmetric and transitive.
func checkOrder(t *testing.T, all []cut.Cut, le [][]bool) {
	t.Helper()
	for i, a := range all {
		if !le[i][i] {
			t.Errorf("LE(%v, %v) is false", a, a)
		}
		for j, b := range all {
			if !le[i][j] {
				continue
			}
			if le[j][i] && !cut.Same(a, b) {
				t.Errorf("%v and %v are LE each other", a, b)
			}
			for k, c := range all {
				if le[j][k] && !le[i][k] {
					t.Errorf("%v, %v and %v are LE in order, but not the first and the last", a, b, c)
				}
			}
		}
	}
}

// TestJoinKnown: promise 8.4, Join of any two cuts of a world knows exactly what one or the other knows, and is above both.
func TestJoinKnown(t *testing.T) {
	for _, w := range worlds(t) {
		all := w.cuts(t)
		for _, a := range all {
			for _, b := range all {
				join, e := cut.Join(a, b)
				if e != api.OK || cut.Check(join) != api.OK || w.knows(join) != w.knows(a)|w.knows(b) {
					t.Fatalf("Join(%v, %v): %v, error %d", a, b, join, e)
				}
				if !cut.Same(join, all[w.knows(a)|w.knows(b)]) || !cut.LE(a, join) || !cut.LE(b, join) {
					t.Fatalf("Join(%v, %v): %v", a, b, join)
				}
			}
		}
	}
}

// TestAddKnown: promise 8.1, Add of each transaction of a world to each of its cuts: what is known already is, all else becomes known, and nothing besides.
func TestAddKnown(t *testing.T) {
	for _, w := range worlds(t) {
		all := w.cuts(t)
		for known, c := range all {
			for i, id := range w.all {
				more, e := cut.Add(c, id)
				has := uint(known)>>i&1 != 0
				if cut.Has(c, id) != has {
					t.Fatalf("Has(%v, %v): %t", c, id, !has)
				}
				if has && (e != api.ErrTwice || !cut.Same(more, cut.Cut{})) {
					t.Fatalf("Add(%v, %v): %v, error %d; want error %d", c, id, more, e, api.ErrTwice)
				}
				if !has && (e != api.OK || !cut.Same(more, all[known|1<<i])) {
					t.Fatalf("Add(%v, %v): %v, error %d; want %v", c, id, more, e, all[known|1<<i])
				}
			}
		}
	}
}

// TestAddOrders: promise 8.4, transactions that are added one by one, in any order, make the cut that Make does; whether one is known is told at each step.
func TestAddOrders(t *testing.T) {
	all := ids(t, "0.2 0.4 1.3 1.4 1.6 2.1")
	start := cut.Cut{V: api.Vec{0, 2}}
	want, e := cut.Make(start.V, all)
	if !cut.Same(want, of(t, api.Vec{0, 4, 1}, "0.2 0.4 1.6")) || e != api.OK {
		t.Fatalf("Make: %v, error %d", want, e)
	}
	for _, l := range orders(all) {
		c := start
		for i, id := range l {
			more, e := cut.Add(c, id)
			if e != api.OK || !cut.LE(c, more) || cut.LE(more, c) {
				t.Fatalf("in the order %v, Add(%v, %v): %v, error %d", l, c, id, more, e)
			}
			c = more
			for j, other := range l {
				if cut.Has(c, other) != (j <= i) {
					t.Fatalf("in the order %v, Has(%v, %v): %t", l, c, other, j > i)
				}
			}
		}
		if !cut.Same(c, want) {
			t.Fatalf("in the order %v, Add makes %v; want %v", l, c, want)
		}
	}
}

// TestListsDefined: promise 8.1, all short lists of ids, valid or not, in any order: Check is what the chapter says, and Make of the valid ones is a cut of them.
func TestListsDefined(t *testing.T) {
	all := append(ids(t, "0.1 0.2 0.3 1.2 1.3 1.4 7.1048576"), api.Id{Origin: -1, Seq: 1}, api.Id{Origin: 8, Seq: 4}, api.Id{Origin: 1, Seq: 0}, api.Id{Origin: 1, Seq: maxCount + 1})
	for _, l := range lists(all, 3) {
		for _, v := range []api.Vec{{}, {0, 2}, {1, 3}, {0, 2, 0, 0, 0, 0, 0, maxCount - 1}} {
			c := cut.Cut{V: v, D: l}
			want := checkOf(c)
			if e := cut.Check(c); e != want {
				t.Fatalf("Check(%v): error %d; want %d", c, e, want)
			}
			made, e := cut.Make(v, l)
			if want == api.ErrRange {
				if e != api.ErrRange || !cut.Same(made, cut.Cut{}) {
					t.Fatalf("Make(%v, %v): %v, error %d", v, l, made, e)
				}
				continue
			}
			if e != api.OK || checkOf(made) != api.OK || cut.Same(made, c) != (want == api.OK) {
				t.Fatalf("Make(%v, %v): %v, error %d", v, l, made, e)
			}
			for _, id := range all {
				if cut.Has(made, id) != cut.Has(c, id) {
					t.Fatalf("Make(%v, %v): %v", v, l, made)
				}
			}
		}
	}
}

// checkBack holds that Read of Write gives c again, and uses all bytes up.
func checkBack(t *testing.T, c cut.Cut) {
	t.Helper()
	code, e := cut.Write(c)
	r := octet.New(code)
	if got := cut.Read(r); !cut.Same(got, c) || e != api.OK || r.End() != nil {
		t.Fatalf("Read of Write of %v, % X: %v, error %d, %v", c, code, got, e, r.End())
	}
}

// TestBack: promises 8.3 and 8.4, Read of each Write gives the cut again.
func TestBack(t *testing.T) {
	for _, w := range worlds(t) {
		for _, c := range w.cuts(t) {
			checkBack(t, c)
		}
	}
	for _, k := range wholes(t) {
		checkBack(t, k.c)
	}
	for n := 1; n <= api.MaxDots; n++ {
		checkBack(t, cut.Cut{V: same(uint32(n)), D: row(n)})
		checkBack(t, cut.Cut{V: api.Vec{uint32(n)}, D: run(7, uint32(200*n), n)})
	}
}
