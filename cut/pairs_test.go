package cut_test

import (
	"slices"
	"testing"

	"selkie/api"
	"selkie/cut"
)

// checkLE holds whether a and b are cuts and b knows all that a knows.
func checkLE(t *testing.T, name string, a, b cut.Cut, want bool) {
	t.Helper()
	givenA, keptA := lend(t, a)
	givenB, keptB := lend(t, b)
	if got := cut.LE(givenA, givenB); got != want {
		t.Errorf("LE of %s, %v and %v: %t; want %t", name, a, b, got, want)
	}
	keptA()
	keptB()
}

// checkJoin holds the Join of a and b, twice, as nothing is kept.
func checkJoin(t *testing.T, name string, a, b, want cut.Cut, e api.Errno) {
	t.Helper()
	givenA, keptA := lend(t, a)
	givenB, keptB := lend(t, b)
	for range 2 {
		got, gotE := cut.Join(givenA, givenB)
		checkCut(t, "Join of "+name, got, gotE, want, e)
	}
	keptA()
	keptB()
}

// TestPairs: promise 8.2, LE and Join, where the cuts are equal, one is within the other or neither is, and where one knows by its vector what the other knows by its set.
func TestPairs(t *testing.T) {
	for _, c := range []struct {
		a, b, join cut.Cut
		le, ge     bool
	}{
		{of(t, api.Vec{}, ""), of(t, api.Vec{}, ""), of(t, api.Vec{}, ""), true, true},
		{of(t, api.Vec{}, ""), of(t, api.Vec{1}, ""), of(t, api.Vec{1}, ""), true, false},
		{of(t, api.Vec{}, ""), of(t, api.Vec{}, "7.2"), of(t, api.Vec{}, "7.2"), true, false},
		{of(t, api.Vec{0, 2}, "1.4"), of(t, api.Vec{0, 2}, "1.4"), of(t, api.Vec{0, 2}, "1.4"), true, true},
		{of(t, api.Vec{0, 2}, ""), of(t, api.Vec{0, 3}, ""), of(t, api.Vec{0, 3}, ""), true, false},
		{of(t, api.Vec{0, 2}, ""), of(t, api.Vec{3, 1}, ""), of(t, api.Vec{3, 2}, ""), false, false},
		{of(t, api.Vec{0, 2}, "1.4"), of(t, api.Vec{0, 2}, "1.4 1.6"), of(t, api.Vec{0, 2}, "1.4 1.6"), true, false},
		{of(t, api.Vec{0, 2}, "1.4"), of(t, api.Vec{0, 2}, "1.5"), of(t, api.Vec{0, 2}, "1.4 1.5"), false, false},
		{of(t, api.Vec{0, 2}, "1.6"), of(t, api.Vec{0, 2}, "0.2 1.4 1.6 7.2"), of(t, api.Vec{0, 2}, "0.2 1.4 1.6 7.2"), true, false},
		{of(t, api.Vec{0, 2}, "0.3 1.5"), of(t, api.Vec{0, 2}, "1.4 2.3"), of(t, api.Vec{0, 2}, "0.3 1.4 1.5 2.3"), false, false},
		// What a knows by its set, b knows by its vector.
		{of(t, api.Vec{0, 2}, "1.4"), of(t, api.Vec{0, 4}, ""), of(t, api.Vec{0, 4}, ""), true, false},
		{of(t, api.Vec{0, 2}, "1.4 1.6"), of(t, api.Vec{0, 5}, ""), of(t, api.Vec{0, 6}, ""), false, false},
		{of(t, api.Vec{0, 2}, "1.4 1.6"), of(t, api.Vec{0, 4}, "1.6"), of(t, api.Vec{0, 4}, "1.6"), true, false},
		{of(t, api.Vec{0, 2}, "1.4 1.7"), of(t, api.Vec{0, 4}, "1.6"), of(t, api.Vec{0, 4}, "1.6 1.7"), false, false},
		{of(t, api.Vec{0, 2}, "1.4"), of(t, api.Vec{0, 3}, ""), of(t, api.Vec{0, 4}, ""), false, false},
		{of(t, api.Vec{0, 2}, "1.4 1.5 1.7"), of(t, api.Vec{0, 3}, ""), of(t, api.Vec{0, 5}, "1.7"), false, false},
		{of(t, api.Vec{}, "0.2 1.3 7.5"), of(t, api.Vec{2, 3, 0, 0, 0, 0, 0, 5}, ""), of(t, api.Vec{2, 3, 0, 0, 0, 0, 0, 5}, ""), true, false},
		{of(t, api.Vec{}, "0.2"), of(t, api.Vec{1}, ""), of(t, api.Vec{2}, ""), false, false},
		// What a knows by its vector, b knows in part by its set.
		{of(t, api.Vec{0, 4}, ""), of(t, api.Vec{0, 1}, "1.3 1.4"), of(t, api.Vec{0, 4}, ""), false, true},
		{of(t, api.Vec{0, 3}, ""), of(t, api.Vec{0, 1}, "1.3 1.4"), of(t, api.Vec{0, 4}, ""), false, false},
		{of(t, api.Vec{0, 1}, "2.2"), of(t, api.Vec{0, 0, 1}, "1.2"), of(t, api.Vec{0, 2, 2}, ""), false, false},
		{of(t, api.Vec{maxCount}, ""), of(t, api.Vec{maxCount - 2}, "0.1048576"), of(t, api.Vec{maxCount}, ""), false, true},
		{of(t, api.Vec{maxCount - 1}, ""), of(t, api.Vec{maxCount - 2}, "0.1048576"), of(t, api.Vec{maxCount}, ""), false, false},
		{of(t, same(maxCount), ""), of(t, same(maxCount), ""), of(t, same(maxCount), ""), true, true},
		{of(t, api.Vec{}, "0.1048576 7.1048576"), of(t, same(maxCount), ""), of(t, same(maxCount), ""), true, false},
	} {
		checkLE(t, "a pair", c.a, c.b, c.le)
		checkLE(t, "a pair, the other way", c.b, c.a, c.ge)
		checkJoin(t, "a pair", c.a, c.b, c.join, api.OK)
		checkJoin(t, "a pair, the other way", c.b, c.a, c.join, api.OK)
	}
	for _, k := range wholes(t) {
		checkLE(t, k.name+" and itself", k.c, k.c, true)
		checkLE(t, "zero and "+k.name, cut.Cut{}, k.c, true)
		checkLE(t, k.name+" and all", k.c, cut.Cut{V: same(maxCount)}, true)
		checkJoin(t, k.name+" and itself", k.c, k.c, k.c, api.OK)
		checkJoin(t, k.name+" and zero", k.c, cut.Cut{}, k.c, api.OK)
		checkJoin(t, k.name+" and all", k.c, cut.Cut{V: same(maxCount)}, cut.Cut{V: same(maxCount)}, api.OK)
	}
}

// TestLEMost: promise 8.2, LE of cuts of which both sets together have more elements than a set can hold.
func TestLEMost(t *testing.T) {
	set := row(64)
	high := cut.Cut{V: same(30000), D: run(5, 40000, 64)}
	checkLE(t, "64 and 64 others above them", cut.Cut{D: set}, high, true)
	checkLE(t, "64 above and 64 below", high, cut.Cut{D: set}, false)
	checkLE(t, "64 and 64 others", cut.Cut{D: set}, cut.Cut{V: same(100), D: run(5, 40000, 64)}, false)
	checkLE(t, "64 and the same", cut.Cut{D: set}, cut.Cut{V: same(100), D: set}, true)
	checkLE(t, "64 and 63 of them", cut.Cut{D: set}, cut.Cut{V: same(100), D: set[:63]}, false)
	checkLE(t, "64 and all but the first of them", cut.Cut{D: set}, cut.Cut{V: same(100), D: set[1:]}, false)
}

// TestLENoCuts: promise 8.2, LE is false where the first, the second or neither is a cut, even if both are the same.
func TestLENoCuts(t *testing.T) {
	all := cut.Cut{V: same(maxCount)}
	for _, bad := range faulty(t) {
		checkLE(t, bad.name+" and itself", bad.c, bad.c, false)
		checkLE(t, bad.name+" and all", bad.c, all, false)
		checkLE(t, bad.name+" and zero", bad.c, cut.Cut{}, false)
		checkLE(t, "zero and "+bad.name, cut.Cut{}, bad.c, false)
	}
	for _, bad := range few(t) {
		for _, k := range append(wholes(t), few(t)...) {
			checkLE(t, bad.name+" and "+k.name, bad.c, k.c, false)
			checkLE(t, k.name+" and "+bad.name, k.c, bad.c, false)
		}
	}
}

// TestJoinMost: promise 8.2, sets that together are too many for Make, even if few of them are left beyond the vectors.
func TestJoinMost(t *testing.T) {
	all := row(128)
	var even, odd []api.Id
	for i := 0; i < len(all); i += 2 {
		even, odd = append(even, all[i]), append(odd, all[i+1])
	}
	v, high := same(100), same(maxCount)
	for _, c := range []struct {
		name string
		a, b cut.Cut
		want cut.Cut
		e    api.Errno
	}{
		{"64 and none", cut.Cut{V: v, D: all[:64]}, cut.Cut{}, cut.Cut{V: v, D: all[:64]}, api.OK},
		{"64 and the same", cut.Cut{V: v, D: all[:64]}, cut.Cut{D: all[:64]}, cut.Cut{V: v, D: all[:64]}, api.OK},
		{"40 and 40, 64 of them distinct", cut.Cut{D: all[:40]}, cut.Cut{V: v, D: all[24:64]}, cut.Cut{V: v, D: all[:64]}, api.OK},
		{"40 and 40, 65 of them distinct", cut.Cut{D: all[:40]}, cut.Cut{V: v, D: all[25:65]}, cut.Cut{}, api.ErrLong},
		{"32 and 32", cut.Cut{D: even[:32]}, cut.Cut{V: v, D: odd[:32]}, cut.Cut{V: v, D: all[:64]}, api.OK},
		{"32 and 33", cut.Cut{D: even[:32]}, cut.Cut{V: v, D: odd[:33]}, cut.Cut{}, api.ErrLong},
		{"64 and another one before", cut.Cut{D: all[1:65]}, cut.Cut{D: all[:1]}, cut.Cut{}, api.ErrLong},
		{"64 and another one behind", cut.Cut{D: all[:64]}, cut.Cut{D: all[64:65]}, cut.Cut{}, api.ErrLong},
		{"64 and 64", cut.Cut{D: even}, cut.Cut{D: odd}, cut.Cut{}, api.ErrLong},
		{"64 and 64 behind", cut.Cut{D: all[:64]}, cut.Cut{D: all[64:]}, cut.Cut{}, api.ErrLong},
		{"64 and a vector with all of them", cut.Cut{D: all[:64]}, cut.Cut{V: high}, cut.Cut{V: high}, api.OK},
		{"64 and one that lets them follow", cut.Cut{V: api.Vec{9}, D: run(0, 11, 64)}, cut.Cut{V: api.Vec{10}}, cut.Cut{V: api.Vec{74}}, api.OK},
		{"64 that are within the vector of the other one, and one", cut.Cut{D: run(0, 2, 64)}, of(t, api.Vec{99}, "1.2"), cut.Cut{}, api.ErrLong},
		{"63 that are within the vector of the other one, and one", cut.Cut{D: run(0, 2, 63)}, of(t, api.Vec{99}, "1.2"), of(t, api.Vec{99}, "1.2"), api.OK},
		{"33 and 32, within the vectors of one another", cut.Cut{V: api.Vec{0, 99}, D: run(0, 2, 33)}, cut.Cut{V: api.Vec{99}, D: run(1, 2, 32)}, cut.Cut{}, api.ErrLong},
		{"32 and 32, within the vectors of one another", cut.Cut{V: api.Vec{0, 99}, D: run(0, 2, 32)}, cut.Cut{V: api.Vec{99}, D: run(1, 2, 32)}, cut.Cut{V: api.Vec{99, 99}}, api.OK},
	} {
		checkJoin(t, c.name, c.a, c.b, c.want, c.e)
		checkJoin(t, c.name+", the other way", c.b, c.a, c.want, c.e)
	}
}

// TestJoinErrors: promise 8.2, an error of the first cut comes before one of the second.
func TestJoinErrors(t *testing.T) {
	for _, bad := range faulty(t) {
		for _, good := range []cut.Cut{{}, of(t, api.Vec{0, 2}, "1.4"), {V: same(100), D: row(64)}} {
			checkJoin(t, bad.name+" and a cut", bad.c, good, cut.Cut{}, bad.e)
			checkJoin(t, "a cut and "+bad.name, good, bad.c, cut.Cut{}, bad.e)
		}
		for _, other := range few(t) {
			checkJoin(t, bad.name+" and "+other.name, bad.c, other.c, cut.Cut{}, bad.e)
			checkJoin(t, other.name+" and "+bad.name, other.c, bad.c, cut.Cut{}, other.e)
		}
	}
}

// TestJoinOfOneList: promise 8.2, both sets may be parts of one list, which stays as it is.
func TestJoinOfOneList(t *testing.T) {
	c, kept := lend(t, of(t, api.Vec{0, 2}, "0.2 0.4 1.4 1.6 7.2"))
	first, second := cut.Cut{V: api.Vec{0, 2}, D: c.D[:3]}, cut.Cut{V: api.Vec{1}, D: c.D[1:]}
	for range 2 {
		got, e := cut.Join(first, second)
		checkCut(t, "Join of parts", got, e, of(t, api.Vec{2, 2}, "0.4 1.4 1.6 7.2"), api.OK)
		got, e = cut.Join(second, first)
		checkCut(t, "Join of parts, the other way", got, e, of(t, api.Vec{2, 2}, "0.4 1.4 1.6 7.2"), api.OK)
		got, e = cut.Add(first, api.Id{Origin: 5, Seq: 2})
		checkCut(t, "Add to a part", got, e, of(t, api.Vec{0, 2}, "0.2 0.4 1.4 5.2"), api.OK)
	}
	kept()
}

// checkSame holds whether a and b have the same vector and list, whichever comes first.
func checkSame(t *testing.T, name string, a, b cut.Cut, want bool) {
	t.Helper()
	givenA, keptA := lend(t, a)
	givenB, keptB := lend(t, b)
	if cut.Same(givenA, givenB) != want || cut.Same(givenB, givenA) != want {
		t.Errorf("Same of %s, %v and %v: %t; want %t", name, a, b, !want, want)
	}
	keptA()
	keptB()
}

// TestSame: promise 8.2, Same of cuts and of what is none: another element of the vector or the list, or another order, makes a difference.
func TestSame(t *testing.T) {
	other := api.Id{Origin: 6, Seq: 66}
	for _, k := range append(wholes(t), faulty(t)...) {
		checkSame(t, k.name+" and itself", k.c, k.c, true)
		for origin, n := range k.c.V {
			checkSame(t, k.name+" and another vector", k.c, cut.Cut{V: with(k.c.V, origin, n^1), D: k.c.D}, false)
			checkSame(t, k.name+" and another vector", k.c, cut.Cut{V: with(k.c.V, origin, n^1<<31), D: k.c.D}, false)
		}
		checkSame(t, k.name+" and one more", k.c, cut.Cut{V: k.c.V, D: append(slices.Clone(k.c.D), other)}, false)
		if n := len(k.c.D); n > 0 {
			checkSame(t, k.name+" and one less", k.c, cut.Cut{V: k.c.V, D: k.c.D[1:]}, false)
			for _, at := range []int{0, n / 2, n - 1} {
				id := k.c.D[at]
				checkSame(t, k.name+" and another Seq", k.c, cut.Cut{V: k.c.V, D: put(k.c.D, at, api.Id{Origin: id.Origin, Seq: id.Seq + 1})}, false)
				checkSame(t, k.name+" and another origin", k.c, cut.Cut{V: k.c.V, D: put(k.c.D, at, api.Id{Origin: id.Origin ^ 1, Seq: id.Seq})}, false)
			}
		}
	}
	checkSame(t, "nil and empty", cut.Cut{V: api.Vec{9}}, cut.Cut{V: api.Vec{9}, D: []api.Id{}}, true)
	checkSame(t, "one order and another one", of(t, api.Vec{}, "0.2 0.3"), of(t, api.Vec{}, "0.3 0.2"), false)
	checkSame(t, "one once and twice", of(t, api.Vec{}, "0.2"), of(t, api.Vec{}, "0.2 0.2"), false)
	checkSame(t, "what knows the same, but is no cut", of(t, api.Vec{0, 3}, ""), of(t, api.Vec{0, 2}, "1.3"), false)
	checkSame(t, "what knows the same within and beyond", of(t, api.Vec{0, 3}, ""), of(t, api.Vec{0, 3}, "1.2"), false)
	checkSame(t, "a vector and a list that have changed places", of(t, api.Vec{1}, ""), of(t, api.Vec{}, "0.1"), false)
}
