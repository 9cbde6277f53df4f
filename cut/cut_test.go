package cut_test

import (
	"math"
	"slices"
	"strings"
	"testing"

	"selkie/api"
	"selkie/cut"
	"selkie/ident"
)

const maxCount = api.MaxCount

// ids is the ids of which these are the Texts, separated by spaces.
func ids(t *testing.T, texts string) []api.Id {
	t.Helper()
	var l []api.Id
	for _, text := range strings.Fields(texts) {
		id, err := ident.Parse(text)
		if err != nil {
			t.Fatal(err)
		}
		l = append(l, id)
	}
	return l
}

// of is a vector and the ids of which these are the Texts, which need not be a cut.
func of(t *testing.T, v api.Vec, texts string) cut.Cut {
	t.Helper()
	return cut.Cut{V: v, D: ids(t, texts)}
}

// same is a vector that has n for each origin.
func same(n uint32) api.Vec {
	return api.Vec{n, n, n, n, n, n, n, n}
}

// with is v with another element for an origin.
func with(v api.Vec, origin int, n uint32) api.Vec {
	v[origin] = n
	return v
}

// row is n ids that strictly increase, none of which is the first one of its origin, nor near it.
func row(n int) []api.Id {
	l := make([]api.Id, n)
	for i := range l {
		origin := i * api.MaxOrigins / n
		l[i] = api.Id{Origin: origin, Seq: uint32(1 + i + 3000*(api.MaxOrigins-origin))}
	}
	return l
}

// run is n ids of an origin that go on from one another.
func run(origin int, first uint32, n int) []api.Id {
	l := make([]api.Id, n)
	for i := range l {
		l[i] = api.Id{Origin: origin, Seq: first + uint32(i)}
	}
	return l
}

// backwards is l from its end to its start.
func backwards(l []api.Id) []api.Id {
	l = slices.Clone(l)
	slices.Reverse(l)
	return l
}

// put is l with another element at a place.
func put(l []api.Id, at int, id api.Id) []api.Id {
	l = slices.Clone(l)
	l[at] = id
	return l
}

// invalid are ids of which the Origin, the Seq or both are out of range.
func invalid() []api.Id {
	return []api.Id{
		{},
		{Origin: 7, Seq: 0},
		{Origin: -1, Seq: 1},
		{Origin: 8, Seq: 1},
		{Origin: 256, Seq: 1},
		{Origin: 1 << 32, Seq: 1},
		{Origin: math.MaxInt, Seq: 1},
		{Origin: math.MinInt, Seq: 1},
		{Origin: 0, Seq: maxCount + 1},
		{Origin: 7, Seq: maxCount + 1},
		{Origin: 0, Seq: 1<<24 + 1},
		{Origin: 3, Seq: math.MaxUint32},
		{Origin: -1, Seq: 0},
		{Origin: 8, Seq: maxCount + 1},
	}
}

// badVectors are vectors of which an element, or each, is not a count.
func badVectors() []api.Vec {
	out := []api.Vec{same(maxCount + 1), same(math.MaxUint32)}
	for _, ground := range []api.Vec{{}, {0, 2, 0, 5}, same(maxCount)} {
		for origin := range ground {
			for _, n := range []uint32{maxCount + 1, 1 << 21, 1<<24 + 1, 1 << 31, math.MaxUint32} {
				out = append(out, with(ground, origin, n))
			}
		}
	}
	return out
}

// list is a list of ids with what dots.Make returns for it: where several errors apply, the first one.
type list struct {
	name string
	l    []api.Id
	e    api.Errno
}

// checked is what dots.Check returns for a list that dots.Make refuses: it counts all elements, repeated or not, before it looks at them.
func (bad list) checked() api.Errno {
	if len(bad.l) > 64 {
		return api.ErrLong
	}
	return bad.e
}

// badLists are lists that dots.Make refuses.
func badLists(t *testing.T) []list {
	t.Helper()
	bad := api.Id{Origin: 8, Seq: 1}
	out := []list{
		{"65 ids", row(65), api.ErrLong},
		{"65 ids that fall", backwards(row(65)), api.ErrLong},
		{"65 ids that go on from the zero vector", run(1, 1, 65), api.ErrLong},
		{"65 ids twice", slices.Repeat(row(65), 2), api.ErrLong},
		{"320 ids", row(320), api.ErrLong},
		{"1024 ids", row(1024), api.ErrLong},
		{"1025 ids", row(1025), api.ErrLong},
		{"1025 times one id", slices.Repeat(ids(t, "1.1"), 1025), api.ErrLong},
		{"1025 ids, the last not valid", put(row(1025), 1024, bad), api.ErrLong},
		{"1025 zero ids", make([]api.Id, 1025), api.ErrLong},
		{"1024 zero ids", make([]api.Id, 1024), api.ErrRange},
		{"65 zero ids", make([]api.Id, 65), api.ErrRange},
		{"64 zero ids", make([]api.Id, 64), api.ErrRange},
		{"64 times one id and one that is not valid", append(slices.Repeat(ids(t, "1.4"), 64), bad), api.ErrRange},
		{"63 times one id and one that is not valid", append(slices.Repeat(ids(t, "1.4"), 63), bad), api.ErrRange},
		{"1024 ids, the last not valid", put(row(1024), 1023, bad), api.ErrRange},
		{"65 ids that fall, the last not valid", put(backwards(row(65)), 64, bad), api.ErrRange},
	}
	for _, id := range invalid() {
		out = append(out,
			list{"one id that is not valid", []api.Id{id}, api.ErrRange},
			list{"an id that is not valid first", put(ids(t, "0.3 0.5 1.4"), 0, id), api.ErrRange},
			list{"an id that is not valid last", put(ids(t, "0.3 0.5 1.4"), 2, id), api.ErrRange},
			list{"equal ids before one that is not valid", put(ids(t, "1.4 1.4 1.5"), 2, id), api.ErrRange},
			list{"ids that fall behind one that is not valid", put(ids(t, "0.3 1.5 1.4"), 0, id), api.ErrRange},
			list{"64 ids, the first not valid", put(row(64), 0, id), api.ErrRange},
			list{"64 ids, the last not valid", put(row(64), 63, id), api.ErrRange},
			list{"65 ids, the first not valid", put(row(65), 0, id), api.ErrRange},
			list{"65 ids, the last not valid", put(row(65), 64, id), api.ErrRange},
		)
	}
	return out
}

// known is a vector and a list that are a cut, or not, with what Check returns.
type known struct {
	name string
	c    cut.Cut
	e    api.Errno
}

// wholes are cuts: with a vector, a set, both or none, of the least and the greatest values, and of as many as there may be.
func wholes(t *testing.T) []known {
	t.Helper()
	return []known{
		{"zero", cut.Cut{}, api.OK},
		{"zero with an empty list", cut.Cut{D: []api.Id{}}, api.OK},
		{"the chapter's example", of(t, api.Vec{0, 2}, "1.4"), api.OK},
		{"a vector", of(t, api.Vec{1, 2, 3, 4, 5, 6, 7, 8}, ""), api.OK},
		{"a vector with an empty list", cut.Cut{V: api.Vec{1, 2}, D: []api.Id{}}, api.OK},
		{"a set", of(t, api.Vec{}, "0.2 3.9 7.1048576"), api.OK},
		{"two behind a gap", of(t, api.Vec{0, 2}, "1.4 1.5"), api.OK},
		{"two gaps", of(t, api.Vec{0, 2, 9}, "1.4 1.6 1.7"), api.OK},
		{"a set of another origin", of(t, api.Vec{0, 9}, "0.2 2.2"), api.OK},
		{"all origins", of(t, same(3), "0.5 1.5 2.5 3.5 4.5 5.5 6.5 7.5"), api.OK},
		{"the greatest vector", of(t, same(maxCount), ""), api.OK},
		{"the greatest id", of(t, api.Vec{0, 0, 0, 0, 0, 0, 0, maxCount - 2}, "7.1048576"), api.OK},
		{"the greatest ids of the zero vector", of(t, api.Vec{}, "0.1048575 0.1048576 7.1048576"), api.OK},
		{"a vector with MaxCount, a set beside it", of(t, api.Vec{maxCount, 0, maxCount}, "1.2 3.2"), api.OK},
		{"63 beyond the vector", cut.Cut{V: same(100), D: row(63)}, api.OK},
		{"64 beyond the vector", cut.Cut{V: same(100), D: row(64)}, api.OK},
		{"64 of one origin", cut.Cut{V: api.Vec{0, 0, 0, 7}, D: run(3, 9, 64)}, api.OK},
	}
}

// noCuts are lists that dots.Make takes, but with their vectors they are no cuts.
func noCuts(t *testing.T) []known {
	t.Helper()
	return []known{
		{"the first one of an origin", of(t, api.Vec{}, "0.1"), api.ErrField},
		{"the next one", of(t, api.Vec{0, 2}, "1.3"), api.ErrField},
		{"the next one and another one behind it", of(t, api.Vec{0, 2}, "1.3 1.5"), api.ErrField},
		{"the next one of the last origin", of(t, api.Vec{1, 2, 3, 4, 5, 6, 7, 8}, "0.3 1.4 7.9"), api.ErrField},
		{"the first one of an origin behind others", of(t, api.Vec{0, 2}, "1.4 2.1"), api.ErrField},
		{"the first one of an origin before others", of(t, api.Vec{0, 2}, "0.1 1.4"), api.ErrField},
		{"the next one, where another origin has MaxCount", of(t, api.Vec{maxCount, 1}, "1.2"), api.ErrField},
		{"one that is MaxCount and next", of(t, api.Vec{maxCount - 1}, "0.1048576"), api.ErrField},
		{"one within", of(t, api.Vec{0, 2}, "1.2"), api.ErrField},
		{"the first one within", of(t, api.Vec{0, 2}, "1.1"), api.ErrField},
		{"one within before others", of(t, api.Vec{0, 2}, "1.1 1.4"), api.ErrField},
		{"one within behind others", of(t, api.Vec{0, 2, 3}, "0.2 1.4 2.3"), api.ErrField},
		{"one that is MaxCount and within", of(t, api.Vec{maxCount}, "0.1048576"), api.ErrField},
		{"one within and the next one", of(t, api.Vec{0, 2}, "1.2 1.3"), api.ErrField},
		{"one that comes again", of(t, api.Vec{0, 2}, "1.4 1.4"), api.ErrField},
		{"one that comes again last", of(t, api.Vec{0, 2}, "0.2 1.4 7.2 7.2"), api.ErrField},
		{"one that comes again behind another one", of(t, api.Vec{0, 2}, "1.4 1.5 1.4"), api.ErrField},
		{"a Seq that falls", of(t, api.Vec{0, 2}, "1.5 1.4"), api.ErrField},
		{"an origin that falls", of(t, api.Vec{0, 2}, "2.2 1.4"), api.ErrField},
		{"an origin that falls while the Seq rises", of(t, api.Vec{0, 2}, "1.4 0.9"), api.ErrField},
		{"last ones that fall", of(t, api.Vec{}, "0.2 0.4 0.6 0.5"), api.ErrField},
		{"ones that fall, one of them next", of(t, api.Vec{0, 2}, "1.5 1.3"), api.ErrField},
		{"the next one twice", of(t, api.Vec{0, 2}, "1.3 1.3"), api.ErrField},
		{"one within twice", of(t, api.Vec{0, 2}, "1.2 1.2"), api.ErrField},
		{"64 that fall", cut.Cut{D: backwards(row(64))}, api.ErrField},
		{"64 that go on from the vector", cut.Cut{V: api.Vec{0, 0, 0, 7}, D: run(3, 8, 64)}, api.ErrField},
		{"57, the last one next", cut.Cut{V: with(api.Vec{}, 7, row(64)[56].Seq-1), D: row(64)[:57]}, api.ErrField},
		{"64 times one", cut.Cut{D: slices.Repeat(ids(t, "7.7"), 64)}, api.ErrField},
		{"65 times one", cut.Cut{D: slices.Repeat(ids(t, "7.7"), 65)}, api.ErrLong},
		{"65, 64 of them distinct", cut.Cut{D: put(row(65), 64, row(65)[63])}, api.ErrLong},
		{"64 twice", cut.Cut{D: slices.Repeat(row(64), 2)}, api.ErrLong},
		{"1024 times one", cut.Cut{D: slices.Repeat(ids(t, "7.7"), 1024)}, api.ErrLong},
		{"1024 times the next one", cut.Cut{V: same(6), D: slices.Repeat(ids(t, "7.7"), 1024)}, api.ErrLong},
	}
}

// faulty are all that are no cuts, with the first error: of the vector, of the list, of both together.
func faulty(t *testing.T) []known {
	t.Helper()
	out := noCuts(t)
	for _, bad := range badLists(t) {
		for _, v := range []api.Vec{{}, {0, 2}, same(maxCount)} {
			out = append(out, known{bad.name, cut.Cut{V: v, D: bad.l}, bad.checked()})
		}
	}
	for _, v := range badVectors() {
		for _, l := range [][]api.Id{nil, ids(t, "1.4"), row(64), ids(t, "1.5 1.4"), ids(t, "1.2 1.3"), row(65), make([]api.Id, 1025), make([]api.Id, 1)} {
			out = append(out, known{"a vector that is not valid", cut.Cut{V: v, D: l}, api.ErrRange})
		}
	}
	return out
}

// few is some of the faulty ones: one of each error, for tests of pairs.
func few(t *testing.T) []known {
	t.Helper()
	return []known{
		{"a vector that is not valid", of(t, api.Vec{0, maxCount + 1}, "1.4"), api.ErrRange},
		{"a vector that is not valid and 65 ids", cut.Cut{V: same(math.MaxUint32), D: row(65)}, api.ErrRange},
		{"an id that is not valid", cut.Cut{V: api.Vec{0, 2}, D: []api.Id{{Origin: 8, Seq: 4}}}, api.ErrRange},
		{"65 ids, the last not valid", cut.Cut{D: put(row(65), 64, api.Id{})}, api.ErrLong},
		{"64 ids, the last not valid", cut.Cut{D: put(row(64), 63, api.Id{})}, api.ErrRange},
		{"65 ids", cut.Cut{V: api.Vec{0, 2}, D: row(65)}, api.ErrLong},
		{"1025 zero ids", cut.Cut{D: make([]api.Id, 1025)}, api.ErrLong},
		{"the next one", of(t, api.Vec{0, 2}, "1.3"), api.ErrField},
		{"one within", of(t, api.Vec{0, 2}, "1.2 1.4"), api.ErrField},
		{"ones that fall", of(t, api.Vec{0, 2}, "1.5 1.4"), api.ErrField},
		{"one that comes again", of(t, api.Vec{0, 2}, "1.4 1.4"), api.ErrField},
		{"64 twice", cut.Cut{D: slices.Repeat(row(64), 2)}, api.ErrLong},
	}
}

// lend is a copy of c whose list has room behind it, and what holds that neither has changed.
func lend(t *testing.T, c cut.Cut) (cut.Cut, func()) {
	t.Helper()
	all := append(slices.Clone(c.D), api.Id{Origin: 5, Seq: 55}, api.Id{Origin: 6, Seq: 66})
	before := slices.Clone(all)
	return cut.Cut{V: c.V, D: all[:len(c.D)]}, func() {
		t.Helper()
		if !slices.Equal(all, before) {
			t.Errorf("a list that was passed in is %v; want %v", all, before)
		}
	}
}

// checkCut holds a result: the cut, the zero one beside an error, and the error; then it overwrites its list, as it is to be shared with nothing.
func checkCut(t *testing.T, name string, got cut.Cut, e api.Errno, want cut.Cut, wantE api.Errno) {
	t.Helper()
	if got.V != want.V || !slices.Equal(got.D, want.D) || e != wantE {
		t.Errorf("%s: %v, error %d; want %v, error %d", name, got, e, want, wantE)
	}
	l := got.D[:cap(got.D)]
	for i := range l {
		l[i] = api.Id{Origin: -9, Seq: 99}
	}
}

// checkMake holds what Make of v and l returns, twice, as nothing is kept.
func checkMake(t *testing.T, name string, v api.Vec, l []api.Id, want cut.Cut, e api.Errno) {
	t.Helper()
	given, kept := lend(t, cut.Cut{V: v, D: l})
	for range 2 {
		got, gotE := cut.Make(given.V, given.D)
		checkCut(t, "Make of "+name, got, gotE, want, e)
	}
	kept()
}

// TestMake: promise 8.1, the chapter's example first; elements within, next, next only because of one before, behind a gap, repeated and unordered.
func TestMake(t *testing.T) {
	for _, c := range []struct {
		v    api.Vec
		l    string
		more api.Vec
		left string
	}{
		{api.Vec{0, 2}, "1.4", api.Vec{0, 2}, "1.4"},
		{api.Vec{}, "", api.Vec{}, ""},
		{api.Vec{1, 2, 3}, "", api.Vec{1, 2, 3}, ""},
		{api.Vec{0, 2}, "1.1", api.Vec{0, 2}, ""},
		{api.Vec{0, 2}, "1.2 1.1", api.Vec{0, 2}, ""},
		{api.Vec{0, 2}, "1.3", api.Vec{0, 3}, ""},
		{api.Vec{}, "0.1", api.Vec{1}, ""},
		{api.Vec{}, "7.1", api.Vec{0, 0, 0, 0, 0, 0, 0, 1}, ""},
		{api.Vec{0, 2}, "1.3 1.4", api.Vec{0, 4}, ""},
		{api.Vec{0, 2}, "1.4 1.3", api.Vec{0, 4}, ""},
		{api.Vec{0, 2}, "1.6 1.5 1.4 1.3", api.Vec{0, 6}, ""},
		{api.Vec{0, 2}, "1.6 1.4 1.3", api.Vec{0, 4}, "1.6"},
		{api.Vec{0, 2}, "1.4 1.5", api.Vec{0, 2}, "1.4 1.5"},
		{api.Vec{0, 2}, "1.5 1.4", api.Vec{0, 2}, "1.4 1.5"},
		{api.Vec{0, 2}, "1.4 1.4 1.4", api.Vec{0, 2}, "1.4"},
		{api.Vec{0, 2}, "1.3 1.3", api.Vec{0, 3}, ""},
		{api.Vec{0, 2}, "2.1 1.6 1.4 1.3 1.4 2.1", api.Vec{0, 4, 1}, "1.6"},
		{api.Vec{0, 2}, "1.2 1.4", api.Vec{0, 2}, "1.4"},
		{api.Vec{0, 2}, "2.2 1.4 0.2", api.Vec{0, 2}, "0.2 1.4 2.2"},
		{api.Vec{0, 2, 0, 7}, "3.10 7.1 3.8 2.4 2.2 2.1 1.3 0.2", api.Vec{0, 3, 2, 8, 0, 0, 0, 1}, "0.2 2.4 3.10"},
		{api.Vec{5}, "0.8 0.6 0.4 0.2", api.Vec{6}, "0.8"},
		{api.Vec{maxCount - 1}, "0.1048576", api.Vec{maxCount}, ""},
		{api.Vec{maxCount - 2}, "0.1048576", api.Vec{maxCount - 2}, "0.1048576"},
		{api.Vec{maxCount - 2}, "0.1048576 0.1048575", api.Vec{maxCount}, ""},
		{api.Vec{maxCount}, "0.1048576 0.1 7.1", api.Vec{maxCount, 0, 0, 0, 0, 0, 0, 1}, ""},
		{same(maxCount), "0.1 3.5 7.1048576", same(maxCount), ""},
	} {
		want := of(t, c.more, c.left)
		checkMake(t, c.l, c.v, ids(t, c.l), want, api.OK)
		checkMake(t, c.l+", backwards", c.v, backwards(ids(t, c.l)), want, api.OK)
		checkMake(t, c.l+", twice", c.v, slices.Repeat(ids(t, c.l), 2), want, api.OK)
	}
}

// TestMakeCuts: promise 8.1, Make of a cut is the same cut, whatever the order of its set.
func TestMakeCuts(t *testing.T) {
	for _, k := range wholes(t) {
		checkMake(t, k.name, k.c.V, k.c.D, k.c, api.OK)
		checkMake(t, k.name+", backwards", k.c.V, backwards(k.c.D), k.c, api.OK)
		checkMake(t, k.name+", twice", k.c.V, slices.Repeat(k.c.D, 2), k.c, api.OK)
	}
}

// TestMakeMost: promise 8.1, Make takes 1024 elements, of which 64 are distinct, and no more of either, even where none of them is left beyond the vector.
func TestMakeMost(t *testing.T) {
	set := row(64)
	checkMake(t, "1024 of 64", api.Vec{}, slices.Repeat(set, 16), cut.Cut{D: set}, api.OK)
	checkMake(t, "1024 of 64 within", same(maxCount), slices.Repeat(set, 16), cut.Cut{V: same(maxCount)}, api.OK)
	checkMake(t, "1025 of one within", api.Vec{9}, slices.Repeat(ids(t, "0.9"), 1025), cut.Cut{}, api.ErrLong)
	checkMake(t, "64 within", api.Vec{0, 0, 71}, run(2, 8, 64), of(t, api.Vec{0, 0, 71}, ""), api.OK)
	checkMake(t, "65 within", api.Vec{0, 0, 99}, run(2, 8, 65), cut.Cut{}, api.ErrLong)
	checkMake(t, "64 that go on", api.Vec{0, 0, 7}, run(2, 8, 64), of(t, api.Vec{0, 0, 71}, ""), api.OK)
	checkMake(t, "64 that go on, backwards", api.Vec{0, 0, 7}, backwards(run(2, 8, 64)), of(t, api.Vec{0, 0, 71}, ""), api.OK)
	checkMake(t, "65 that go on", api.Vec{0, 0, 7}, run(2, 8, 65), cut.Cut{}, api.ErrLong)
	checkMake(t, "64 behind a gap", api.Vec{0, 0, 6}, run(2, 8, 64), cut.Cut{V: api.Vec{0, 0, 6}, D: run(2, 8, 64)}, api.OK)
	checkMake(t, "65 behind a gap", api.Vec{0, 0, 6}, run(2, 8, 65), cut.Cut{}, api.ErrLong)
	checkMake(t, "64, one within", with(api.Vec{}, 0, set[0].Seq), set, cut.Cut{V: with(api.Vec{}, 0, set[7].Seq), D: set[8:]}, api.OK)
	checkMake(t, "65, one within", api.Vec{1}, append(ids(t, "0.1"), set...), cut.Cut{}, api.ErrLong)
}

// TestMakeErrors: promise 8.1, a vector that is not valid comes before a list that dots.Make refuses.
func TestMakeErrors(t *testing.T) {
	for _, v := range badVectors() {
		for _, k := range wholes(t) {
			checkMake(t, k.name+" for a vector that is not valid", v, k.c.D, cut.Cut{}, api.ErrRange)
		}
		for _, bad := range badLists(t) {
			checkMake(t, bad.name+" for a vector that is not valid", v, bad.l, cut.Cut{}, api.ErrRange)
		}
	}
	for _, bad := range badLists(t) {
		for _, v := range []api.Vec{{}, {0, 2}, {0, 0, 0, 0, 0, 0, 0, maxCount}, same(maxCount)} {
			checkMake(t, bad.name, v, bad.l, cut.Cut{}, bad.e)
		}
	}
}

// TestCheck: promise 8.1, Check of cuts and of what is none.
func TestCheck(t *testing.T) {
	for _, k := range append(wholes(t), faulty(t)...) {
		given, kept := lend(t, k.c)
		for range 2 {
			if e := cut.Check(given); e != k.e {
				t.Errorf("Check of %s, %v: error %d; want %d", k.name, k.c, e, k.e)
			}
		}
		kept()
	}
}

// TestCheckPlaces: promise 8.1, Check of 64 elements where one at each place is not valid, equal to its neighbour, less than it, within the vector or next.
func TestCheckPlaces(t *testing.T) {
	set := row(64)
	for at, old := range set {
		for _, c := range []struct {
			id api.Id
			v  api.Vec
			e  api.Errno
		}{
			{api.Id{Origin: old.Origin, Seq: maxCount + 1}, api.Vec{}, api.ErrRange},
			{api.Id{Origin: old.Origin + 8, Seq: old.Seq}, api.Vec{}, api.ErrRange},
			{set[(at+63)%64], api.Vec{}, api.ErrField},
			{set[(at+1)%64], api.Vec{}, api.ErrField},
			{old, with(api.Vec{}, old.Origin, old.Seq), api.ErrField},
			{old, with(api.Vec{}, old.Origin, old.Seq-1), api.ErrField},
			{old, with(api.Vec{}, (old.Origin+1)%8, 7), api.OK},
		} {
			l := cut.Cut{V: c.v, D: put(set, at, c.id)}
			if e := cut.Check(l); e != c.e {
				t.Errorf("Check of 64 with %v at %d and %v: error %d; want %d", c.id, at, c.v, e, c.e)
			}
		}
	}
}

// checkHas holds whether id is known by c.
func checkHas(t *testing.T, c cut.Cut, id api.Id, want bool) {
	t.Helper()
	given, kept := lend(t, c)
	if got := cut.Has(given, id); got != want {
		t.Errorf("Has of %v, %v: %t; want %t", c, id, got, want)
	}
	kept()
}

// TestHas: promise 8.1, what is known within the vector and by the set, and what lies before, between and behind.
func TestHas(t *testing.T) {
	c := of(t, api.Vec{0, 2, 0, 0, 0, 0, 0, maxCount}, "0.2 1.4 1.7 6.1048576")
	for _, id := range ids(t, "0.2 1.1 1.2 1.4 1.7 6.1048576 7.1 7.300 7.1048576") {
		checkHas(t, c, id, true)
	}
	for _, id := range ids(t, "0.1 0.3 0.4 1.3 1.5 1.6 1.8 2.1 2.4 6.1 6.1048575 5.55") {
		checkHas(t, c, id, false)
	}
	for _, id := range invalid() {
		checkHas(t, c, id, false)
	}
	for _, id := range ids(t, "0.1 3.7 7.1048576") {
		checkHas(t, cut.Cut{}, id, false)
		checkHas(t, of(t, same(maxCount), ""), id, true)
	}
}

// TestHasAny: promise 8.1, Has of any vector and any list: an id is known if it is valid and within the one, or an element of the other.
func TestHasAny(t *testing.T) {
	for _, k := range append(wholes(t), faulty(t)...) {
		asked := slices.Concat(invalid(), ids(t, "0.1 0.2 1.2 1.3 1.4 1.5 2.1 7.7 7.8 7.1048576"), k.c.D[:min(len(k.c.D), 70)])
		for _, id := range asked {
			within := sane(id) && id.Seq <= k.c.V[id.Origin]
			if got := cut.Has(k.c, id); got != (within || in(k.c.D, id)) {
				t.Errorf("Has of %s, %v: %t", k.name, id, got)
			}
		}
	}
	for _, id := range invalid() {
		checkHas(t, cut.Cut{V: same(math.MaxUint32)}, id, false)
		checkHas(t, cut.Cut{V: same(math.MaxUint32), D: []api.Id{{Origin: 7, Seq: 7}, id, {Origin: 1, Seq: 1}}}, id, true)
		checkHas(t, cut.Cut{D: put(row(3000), 2999, id)}, id, true)
	}
	checkHas(t, cut.Cut{V: api.Vec{0, maxCount + 1}}, api.Id{Origin: 1, Seq: maxCount}, true)
	checkHas(t, cut.Cut{V: api.Vec{0, maxCount + 1}}, api.Id{Origin: 2, Seq: 1}, false)
}

// checkAdd holds what Add of c and id returns, twice, as nothing is kept.
func checkAdd(t *testing.T, name string, c cut.Cut, id api.Id, want cut.Cut, e api.Errno) {
	t.Helper()
	given, kept := lend(t, c)
	for range 2 {
		got, gotE := cut.Add(given, id)
		checkCut(t, "Add to "+name+" of "+ident.Text(id), got, gotE, want, e)
	}
	kept()
}

// TestAdd: promise 8.1, the chapter's example first; the next one, one that lets later ones follow, and one behind a gap.
func TestAdd(t *testing.T) {
	for _, c := range []struct {
		v    api.Vec
		d    string
		id   string
		more api.Vec
		left string
	}{
		{api.Vec{0, 2}, "1.4", "1.3", api.Vec{0, 4}, ""},
		{api.Vec{}, "", "0.1", api.Vec{1}, ""},
		{api.Vec{}, "", "0.2", api.Vec{}, "0.2"},
		{api.Vec{}, "", "7.1048576", api.Vec{}, "7.1048576"},
		{api.Vec{1, 2, 3}, "", "1.3", api.Vec{1, 3, 3}, ""},
		{api.Vec{1, 2, 3}, "", "1.4", api.Vec{1, 2, 3}, "1.4"},
		{api.Vec{0, 2}, "1.4", "1.5", api.Vec{0, 2}, "1.4 1.5"},
		{api.Vec{0, 2}, "1.5", "1.4", api.Vec{0, 2}, "1.4 1.5"},
		{api.Vec{0, 2}, "1.4 1.6", "1.5", api.Vec{0, 2}, "1.4 1.5 1.6"},
		{api.Vec{0, 2}, "1.4 1.6", "1.3", api.Vec{0, 4}, "1.6"},
		{api.Vec{0, 2}, "1.4 1.5 1.6 1.8", "1.3", api.Vec{0, 6}, "1.8"},
		{api.Vec{0, 2}, "1.5 1.6", "1.3", api.Vec{0, 3}, "1.5 1.6"},
		{api.Vec{0, 2}, "1.4", "0.1", api.Vec{1, 2}, "1.4"},
		{api.Vec{0, 2}, "1.4", "0.2", api.Vec{0, 2}, "0.2 1.4"},
		{api.Vec{0, 2}, "1.4", "2.1", api.Vec{0, 2, 1}, "1.4"},
		{api.Vec{0, 2}, "1.4", "2.3", api.Vec{0, 2}, "1.4 2.3"},
		{api.Vec{0, 2}, "0.2 1.4 2.2", "1.3", api.Vec{0, 4}, "0.2 2.2"},
		{api.Vec{0, 2}, "0.2 1.4 2.2", "2.1", api.Vec{0, 2, 2}, "0.2 1.4"},
		{api.Vec{maxCount - 1}, "", "0.1048576", api.Vec{maxCount}, ""},
		{api.Vec{maxCount - 2}, "0.1048576", "0.1048575", api.Vec{maxCount}, ""},
		{api.Vec{maxCount - 3}, "0.1048576", "0.1048575", api.Vec{maxCount - 3}, "0.1048575 0.1048576"},
		{api.Vec{maxCount}, "", "1.1", api.Vec{maxCount, 1}, ""},
	} {
		checkAdd(t, c.d, of(t, c.v, c.d), ids(t, c.id)[0], of(t, c.more, c.left), api.OK)
	}
}

// TestAddTwice: promise 8.1, Add of what is known within the vector, or by the set.
func TestAddTwice(t *testing.T) {
	for _, k := range wholes(t) {
		for _, id := range k.c.D {
			checkAdd(t, k.name, k.c, id, cut.Cut{}, api.ErrTwice)
		}
		for origin, n := range k.c.V {
			for _, seq := range []uint32{1, n / 2, n} {
				if seq >= 1 && seq <= n {
					checkAdd(t, k.name, k.c, api.Id{Origin: origin, Seq: seq}, cut.Cut{}, api.ErrTwice)
				}
			}
		}
	}
}

// TestAddMost: promise 8.1, Add of one more than a set can hold, even if it would be the next one, or let all others follow.
func TestAddMost(t *testing.T) {
	v := api.Vec{0, 0, 0, 7}
	most := cut.Cut{V: v, D: run(3, 9, 64)}
	less := cut.Cut{V: v, D: run(3, 9, 63)}
	checkAdd(t, "63", less, api.Id{Origin: 3, Seq: 72}, most, api.OK)
	checkAdd(t, "63", less, api.Id{Origin: 3, Seq: 8}, cut.Cut{V: api.Vec{0, 0, 0, 71}}, api.OK)
	checkAdd(t, "63", less, api.Id{Origin: 7, Seq: 1}, cut.Cut{V: api.Vec{0, 0, 0, 7, 0, 0, 0, 1}, D: less.D}, api.OK)
	checkAdd(t, "63", less, api.Id{Origin: 0, Seq: 2}, cut.Cut{V: v, D: append(ids(t, "0.2"), less.D...)}, api.OK)
	for _, id := range ids(t, "0.2 3.73 3.100 7.1048576 0.1 7.1 3.8") {
		checkAdd(t, "64", most, id, cut.Cut{}, api.ErrLong)
	}
	checkAdd(t, "64", most, api.Id{Origin: 3, Seq: 7}, cut.Cut{}, api.ErrTwice)
	checkAdd(t, "64", most, api.Id{Origin: 3, Seq: 72}, cut.Cut{}, api.ErrTwice)
	checkAdd(t, "64", most, api.Id{Origin: 3, Seq: 0}, cut.Cut{}, api.ErrRange)
}

// TestAddErrors: promise 8.1, what is no cut comes before an id that is not valid, and this before all else.
func TestAddErrors(t *testing.T) {
	for _, bad := range faulty(t) {
		asked := append(ids(t, "0.1 1.2 1.3 1.4 7.7 7.1048576"), api.Id{Origin: 8, Seq: 1}, api.Id{})
		for _, id := range append(asked, bad.c.D[:min(len(bad.c.D), 1)]...) {
			checkAdd(t, bad.name, bad.c, id, cut.Cut{}, bad.e)
		}
	}
	for _, k := range wholes(t) {
		for _, id := range invalid() {
			checkAdd(t, k.name, k.c, id, cut.Cut{}, api.ErrRange)
		}
	}
}
