package dots_test

import (
	"math"
	"slices"
	"strings"
	"testing"

	"selkie/api"
	"selkie/dots"
	"selkie/ident"
)

const maxCount = api.MaxCount

// ids is the ids of which these are the Texts, separated by spaces.
func ids(t *testing.T, texts string) []api.Id {
	t.Helper()
	var l []api.Id
	for _, text := range strings.Fields(texts) {
		id, err := ident.Parse(text)
		if err != nil {
			t.Fatal(err)
		}
		l = append(l, id)
	}
	return l
}

// row is n ids that strictly increase: their origins rise, and their Seqs fall with each origin.
func row(n int) []api.Id {
	l := make([]api.Id, n)
	for i := range l {
		origin := i * api.MaxOrigins / n
		l[i] = api.Id{Origin: origin, Seq: uint32(1 + i + 3000*(api.MaxOrigins-origin))}
	}
	return l
}

// backwards is l from its end to its start.
func backwards(l []api.Id) []api.Id {
	l = slices.Clone(l)
	slices.Reverse(l)
	return l
}

// put is l with another element at a place.
func put(l []api.Id, at int, id api.Id) []api.Id {
	l = slices.Clone(l)
	l[at] = id
	return l
}

// invalid are ids of which the Origin, the Seq or both are out of range.
func invalid() []api.Id {
	return []api.Id{
		{},
		{Origin: 7, Seq: 0},
		{Origin: -1, Seq: 1},
		{Origin: 8, Seq: 1},
		{Origin: 256, Seq: 1},
		{Origin: 1 << 32, Seq: 1},
		{Origin: math.MaxInt, Seq: 1},
		{Origin: math.MinInt, Seq: 1},
		{Origin: 0, Seq: maxCount + 1},
		{Origin: 7, Seq: maxCount + 1},
		{Origin: 0, Seq: 1<<24 + 1},
		{Origin: 3, Seq: math.MaxUint32},
		{Origin: -1, Seq: 0},
		{Origin: 8, Seq: maxCount + 1},
	}
}

// known is a list that is a set, or not, with what Check returns.
type known struct {
	name string
	l    []api.Id
	e    api.Errno
}

// wholes are sets: empty, ordinary, of the least and the greatest ids, and of as many as there may be.
func wholes(t *testing.T) []known {
	t.Helper()
	return []known{
		{"nil", nil, api.OK},
		{"an empty list", []api.Id{}, api.OK},
		{"one id", ids(t, "2.300"), api.OK},
		{"the least id", ids(t, "0.1"), api.OK},
		{"the greatest id", ids(t, "7.1048576"), api.OK},
		{"the chapter's example", ids(t, "1.3 1.4 1.6 2.1"), api.OK},
		{"Seqs that fall with the origins", ids(t, "0.9 1.7 1.8 3.2 7.1"), api.OK},
		{"one Seq for all origins", ids(t, "0.5 1.5 2.5 3.5 4.5 5.5 6.5 7.5"), api.OK},
		{"all bounds", ids(t, "0.1 0.1048575 0.1048576 7.1 7.1048576"), api.OK},
		{"two ids far apart", ids(t, "0.65536 0.65537"), api.OK},
		{"63 ids", row(63), api.OK},
		{"64 ids", row(64), api.OK},
	}
}

// faulty are lists that are no sets; where several errors apply, the first one.
func faulty(t *testing.T) []known {
	t.Helper()
	bad := api.Id{Origin: 8, Seq: 1}
	out := []known{
		{"65 ids", row(65), api.ErrLong},
		{"65 times one id", slices.Repeat(ids(t, "1.1"), 65), api.ErrLong},
		{"65 ids that fall", backwards(row(65)), api.ErrLong},
		{"65 ids, the first not valid", put(row(65), 0, bad), api.ErrLong},
		{"65 ids, the last not valid", put(row(65), 64, bad), api.ErrLong},
		{"65 zero ids", make([]api.Id, 65), api.ErrLong},
		{"128 ids", row(128), api.ErrLong},
		{"320 ids", row(320), api.ErrLong},
		{"1025 ids", row(1025), api.ErrLong},
		{"equal ids", ids(t, "1.1 1.1"), api.ErrField},
		{"equal first ids", ids(t, "0.1 0.1 0.2 1.1"), api.ErrField},
		{"equal last ids", ids(t, "0.1 0.2 1.1 1.1"), api.ErrField},
		{"a Seq that falls", ids(t, "1.2 1.1"), api.ErrField},
		{"an origin that falls", ids(t, "2.1 1.1"), api.ErrField},
		{"an origin that falls while the Seq rises", ids(t, "2.1 1.2"), api.ErrField},
		{"last ids that fall", ids(t, "0.1 0.2 0.4 0.3"), api.ErrField},
		{"first ids that fall", ids(t, "0.2 0.1 0.3 0.4"), api.ErrField},
		{"an id that comes again", ids(t, "0.1 0.2 0.1"), api.ErrField},
		{"64 ids that fall", backwards(row(64)), api.ErrField},
		{"64 times one id", slices.Repeat(ids(t, "7.7"), 64), api.ErrField},
		{"64 ids, the last equal", put(row(64), 63, row(64)[62]), api.ErrField},
		{"64 ids, the last not valid", put(row(64), 63, bad), api.ErrRange},
		{"64 ids that fall, the last not valid", put(backwards(row(64)), 63, bad), api.ErrRange},
		{"64 zero ids", make([]api.Id, 64), api.ErrRange},
	}
	for _, id := range invalid() {
		out = append(out,
			known{"one id that is not valid", []api.Id{id}, api.ErrRange},
			known{"an id that is not valid first", put(ids(t, "0.1 0.2 1.1"), 0, id), api.ErrRange},
			known{"an id that is not valid between others", put(ids(t, "0.1 0.2 1.1"), 1, id), api.ErrRange},
			known{"an id that is not valid last", put(ids(t, "0.1 0.2 1.1"), 2, id), api.ErrRange},
			known{"two equal ids that are not valid", []api.Id{id, id}, api.ErrRange},
			known{"equal ids before one that is not valid", put(ids(t, "1.1 1.1 1.2"), 2, id), api.ErrRange},
			known{"ids that fall behind one that is not valid", put(ids(t, "0.1 1.2 1.1"), 0, id), api.ErrRange},
		)
	}
	return out
}

// lend is a copy of l with room behind it, and what holds that neither has changed.
func lend(t *testing.T, l []api.Id) ([]api.Id, func()) {
	t.Helper()
	all := append(slices.Clone(l), api.Id{Origin: 5, Seq: 55}, api.Id{Origin: 6, Seq: 66})
	before := slices.Clone(all)
	return all[:len(l)], func() {
		t.Helper()
		if !slices.Equal(all, before) {
			t.Errorf("a list that was passed in is %v; want %v", all, before)
		}
	}
}

// checkSet holds a result: the elements, none beside an error, and the error; then it overwrites it, as it is to be shared with nothing.
func checkSet(t *testing.T, name string, got []api.Id, e api.Errno, want []api.Id, wantE api.Errno) {
	t.Helper()
	if !slices.Equal(got, want) || e != wantE {
		t.Errorf("%s: %v, error %d; want %v, error %d", name, got, e, want, wantE)
	}
	got = got[:cap(got)]
	for i := range got {
		got[i] = api.Id{Origin: -9, Seq: 99}
	}
}

// checkMake holds what Make of l returns.
func checkMake(t *testing.T, name string, l, want []api.Id, e api.Errno) {
	t.Helper()
	given, kept := lend(t, l)
	got, gotE := dots.Make(given)
	checkSet(t, "Make of "+name, got, gotE, want, e)
	kept()
}

// TestMake: promise 7.1, Make puts the elements in order, each once.
func TestMake(t *testing.T) {
	for _, c := range []struct{ l, want string }{
		{"", ""},
		{"2.300", "2.300"},
		{"0.1 0.1", "0.1"},
		{"0.2 0.1", "0.1 0.2"},
		{"1.1 0.2", "0.2 1.1"},
		{"0.1 0.2 0.1", "0.1 0.2"},
		{"2.1 1.6 1.4 1.3", "1.3 1.4 1.6 2.1"},
		{"7.1 0.1048576 7.1 3.5 0.1 3.5 0.1048576", "0.1 0.1048576 3.5 7.1"},
		{"1.3 1.4 1.6 2.1", "1.3 1.4 1.6 2.1"},
	} {
		checkMake(t, c.l, ids(t, c.l), ids(t, c.want), api.OK)
	}
	for _, k := range wholes(t) {
		checkMake(t, k.name, k.l, k.l, api.OK)
		checkMake(t, k.name+", backwards", backwards(k.l), k.l, api.OK)
		checkMake(t, k.name+", twice", append(slices.Clone(k.l), k.l...), k.l, api.OK)
	}
}

// TestMakeMost: promise 7.1, Make takes 1024 elements, of which 64 are distinct, and no more of either.
func TestMakeMost(t *testing.T) {
	set := row(64)
	checkMake(t, "1023 of 64", slices.Repeat(set, 16)[1:], set, api.OK)
	checkMake(t, "1024 of 64", slices.Repeat(set, 16), set, api.OK)
	checkMake(t, "1024 of 64, backwards", backwards(slices.Repeat(set, 16)), set, api.OK)
	checkMake(t, "1024 of one", slices.Repeat(set[:1], 1024), set[:1], api.OK)
	checkMake(t, "1025 of one", slices.Repeat(set[:1], 1025), nil, api.ErrLong)
	checkMake(t, "1088 of 64", slices.Repeat(set, 17), nil, api.ErrLong)
	checkMake(t, "65536 of one", slices.Repeat(set[:1], 65536), nil, api.ErrLong)
	for _, n := range []int{65, 66, 128, 129, 256, 257, 1023, 1024, 1025} {
		checkMake(t, "distinct ones", row(n), nil, api.ErrLong)
		checkMake(t, "distinct ones, backwards", backwards(row(n)), nil, api.ErrLong)
	}
	checkMake(t, "1024 of 65", append(slices.Repeat(set, 16)[1:], api.Id{Seq: 1}), nil, api.ErrLong)
}

// TestMakeErrors: promise 7.1, too many elements come before one that is not a valid id, and this before too many distinct ones.
func TestMakeErrors(t *testing.T) {
	for _, id := range invalid() {
		for _, n := range []int{1, 2, 63, 64, 65, 66, 1023, 1024} {
			for _, at := range []int{0, n / 2, n - 1} {
				checkMake(t, "one that is not valid", put(row(n), at, id), nil, api.ErrRange)
				checkMake(t, "one that is not valid, backwards", put(backwards(row(n)), at, id), nil, api.ErrRange)
				checkMake(t, "one that is not valid among equal ones", put(slices.Repeat(row(1), n), at, id), nil, api.ErrRange)
			}
		}
		for _, n := range []int{1025, 1026, 2048} {
			for _, at := range []int{0, n / 2, n - 1} {
				checkMake(t, "too many, one not valid", put(row(n), at, id), nil, api.ErrLong)
			}
			checkMake(t, "too many, none valid", slices.Repeat([]api.Id{id}, n), nil, api.ErrLong)
		}
		checkMake(t, "1024 equal ones that are not valid", slices.Repeat([]api.Id{id}, 1024), nil, api.ErrRange)
	}
}

// TestCheck: promise 7.1, Check of sets and of lists that are none.
func TestCheck(t *testing.T) {
	for _, k := range append(wholes(t), faulty(t)...) {
		given, kept := lend(t, k.l)
		if e := dots.Check(given); e != k.e {
			t.Errorf("Check of %s: error %d; want %d", k.name, e, k.e)
		}
		kept()
	}
}

// TestCheckPlaces: promise 7.1, Check of 64 elements with one that is not valid, equal to its neighbour or less, at each place.
func TestCheckPlaces(t *testing.T) {
	set := row(64)
	for at := range set {
		for _, id := range invalid() {
			if e := dots.Check(put(set, at, id)); e != api.ErrRange {
				t.Errorf("Check with %v at %d: error %d; want %d", id, at, e, api.ErrRange)
			}
		}
		if at == 0 {
			continue
		}
		for _, id := range []api.Id{set[at-1], {Origin: set[at-1].Origin, Seq: set[at-1].Seq - 1}, {Seq: 1}} {
			if e := dots.Check(put(set, at, id)); e != api.ErrField {
				t.Errorf("Check with %v at %d: error %d; want %d", id, at, e, api.ErrField)
			}
		}
	}
}

// checkHas holds whether id is an element of l.
func checkHas(t *testing.T, name string, l []api.Id, id api.Id, want bool) {
	t.Helper()
	given, kept := lend(t, l)
	if got := dots.Has(given, id); got != want {
		t.Errorf("Has of %s, %v: %t; want %t", name, id, got, want)
	}
	kept()
}

// TestHas: promise 7.1, Has of any list, a set or not: each of its elements, valid or not, and ids that differ from them in one field.
func TestHas(t *testing.T) {
	for _, k := range append(wholes(t), faulty(t)...) {
		for _, id := range k.l {
			checkHas(t, k.name, k.l, id, true)
		}
		checkHas(t, k.name, k.l, api.Id{Origin: 12, Seq: 12}, false)
		checkHas(t, k.name, k.l, api.Id{Origin: 5, Seq: 55}, false)
	}
	for _, l := range [][]api.Id{ids(t, "1.3 1.4 1.6 2.1"), ids(t, "2.1 1.6 1.4 1.3"), ids(t, "1.6 1.3 2.1 1.6 1.4")} {
		for _, id := range ids(t, "0.1 0.3 1.1 1.2 1.5 1.7 2.2 2.3 3.1 7.1048576") {
			checkHas(t, "a list", l, id, false)
		}
	}
	for _, id := range invalid() {
		checkHas(t, "nil", nil, id, false)
		checkHas(t, "valid ones", row(64), id, false)
		checkHas(t, "many, the last not valid", put(row(3000), 2999, id), id, true)
		checkHas(t, "one that falls", []api.Id{{Origin: 7, Seq: 7}, id, {Origin: 1, Seq: 1}}, id, true)
	}
	checkHas(t, "one of another origin", []api.Id{{Origin: -1, Seq: 1}}, api.Id{Origin: 1, Seq: 1}, false)
	checkHas(t, "one of another Seq", []api.Id{{Origin: 1, Seq: 1}}, api.Id{Origin: 1, Seq: 1<<31 + 1}, false)
}

// checkUnion holds the Union of two lists.
func checkUnion(t *testing.T, name string, a, b, want []api.Id, e api.Errno) {
	t.Helper()
	givenA, keptA := lend(t, a)
	givenB, keptB := lend(t, b)
	got, gotE := dots.Union(givenA, givenB)
	checkSet(t, "Union of "+name, got, gotE, want, e)
	keptA()
	keptB()
}

// checkMinus holds what of a is not in b.
func checkMinus(t *testing.T, name string, a, b, want []api.Id, e api.Errno) {
	t.Helper()
	givenA, keptA := lend(t, a)
	givenB, keptB := lend(t, b)
	got, gotE := dots.Minus(givenA, givenB)
	checkSet(t, "Minus of "+name, got, gotE, want, e)
	keptA()
	keptB()
}

// checkBeyond holds what of l is not within v.
func checkBeyond(t *testing.T, name string, l []api.Id, v api.Vec, want []api.Id, e api.Errno) {
	t.Helper()
	given, kept := lend(t, l)
	got, gotE := dots.Beyond(given, v)
	checkSet(t, "Beyond of "+name, got, gotE, want, e)
	kept()
}

// TestPairs: promise 7.2, Union and Minus of ordinary sets, of empty and of equal ones, and of ones without a common element.
func TestPairs(t *testing.T) {
	for _, c := range []struct{ a, b, union, aMinusB, bMinusA string }{
		{"", "", "", "", ""},
		{"", "1.1", "1.1", "", "1.1"},
		{"", "1.3 1.4 1.6 2.1", "1.3 1.4 1.6 2.1", "", "1.3 1.4 1.6 2.1"},
		{"1.1", "1.1", "1.1", "", ""},
		{"1.3 1.4 1.6 2.1", "1.3 1.4 1.6 2.1", "1.3 1.4 1.6 2.1", "", ""},
		{"0.1", "0.2", "0.1 0.2", "0.1", "0.2"},
		{"0.2", "1.1", "0.2 1.1", "0.2", "1.1"},
		{"0.1 0.2", "7.1 7.2", "0.1 0.2 7.1 7.2", "0.1 0.2", "7.1 7.2"},
		{"0.1 2.1 4.1", "1.1 3.1 5.1", "0.1 1.1 2.1 3.1 4.1 5.1", "0.1 2.1 4.1", "1.1 3.1 5.1"},
		{"0.1 5.1", "1.1 3.1", "0.1 1.1 3.1 5.1", "0.1 5.1", "1.1 3.1"},
		{"1.3 1.4 1.6 2.1", "1.4", "1.3 1.4 1.6 2.1", "1.3 1.6 2.1", ""},
		{"1.3 1.4 1.6 2.1", "1.3 2.1", "1.3 1.4 1.6 2.1", "1.4 1.6", ""},
		{"1.3 1.4 1.6", "0.9 1.4 1.6 2.1", "0.9 1.3 1.4 1.6 2.1", "1.3", "0.9 2.1"},
		{"0.1 1.1 2.1", "0.1 1.2 2.1", "0.1 1.1 1.2 2.1", "1.1", "1.2"},
		{"0.1 7.1048576", "0.1048576 7.1", "0.1 0.1048576 7.1 7.1048576", "0.1 7.1048576", "0.1048576 7.1"},
	} {
		a, b := ids(t, c.a), ids(t, c.b)
		checkUnion(t, c.a+" and "+c.b, a, b, ids(t, c.union), api.OK)
		checkUnion(t, c.b+" and "+c.a, b, a, ids(t, c.union), api.OK)
		checkMinus(t, c.a+" and "+c.b, a, b, ids(t, c.aMinusB), api.OK)
		checkMinus(t, c.b+" and "+c.a, b, a, ids(t, c.bMinusA), api.OK)
	}
}

// TestPairsMost: promise 7.2, a Union of 64 and of more elements; Minus takes as many.
func TestPairsMost(t *testing.T) {
	all := row(128)
	var even, odd []api.Id
	for i := 0; i < len(all); i += 2 {
		even, odd = append(even, all[i]), append(odd, all[i+1])
	}
	for _, c := range []struct {
		name string
		a, b []api.Id
		e    api.Errno
	}{
		{"64 and none", all[:64], nil, api.OK},
		{"64 and the same", all[:64], all[:64], api.OK},
		{"64 and some of them", all[:64], all[20:30], api.OK},
		{"40 and 40, 64 of them distinct", all[:40], all[24:64], api.OK},
		{"40 and 40, 65 of them distinct", all[:40], all[25:65], api.ErrLong},
		{"32 and 32", even[:32], odd[:32], api.OK},
		{"32 and 33", even[:32], odd[:33], api.ErrLong},
		{"64 and another one before", all[1:65], all[:1], api.ErrLong},
		{"64 and another one behind", all[:64], all[64:65], api.ErrLong},
		{"64 and others between", even, odd, api.ErrLong},
		{"64 and others behind", all[:64], all[64:], api.ErrLong},
	} {
		want := slices.Concat(c.a, c.b)
		slices.SortFunc(want, ident.Compare)
		want = slices.Compact(want)
		if c.e != api.OK {
			want = nil
		}
		checkUnion(t, c.name, c.a, c.b, want, c.e)
		checkUnion(t, c.name+", the other way", c.b, c.a, want, c.e)
	}
	checkMinus(t, "64 and none", all[:64], nil, all[:64], api.OK)
	checkMinus(t, "64 and the same", all[:64], all[:64], nil, api.OK)
	checkMinus(t, "64 and others behind", all[:64], all[64:], all[:64], api.OK)
	checkMinus(t, "64 and others between", even, odd, even, api.OK)
	checkMinus(t, "64 and half of them", all[:64], even, odd[:32], api.OK)
}

// TestPairsErrors: promise 7.2, a list that is no set in the first place, in the second one, and in both: the first one's error comes first.
func TestPairsErrors(t *testing.T) {
	for _, bad := range faulty(t) {
		for _, good := range wholes(t) {
			checkUnion(t, bad.name+" and "+good.name, bad.l, good.l, nil, bad.e)
			checkUnion(t, good.name+" and "+bad.name, good.l, bad.l, nil, bad.e)
			checkMinus(t, bad.name+" and "+good.name, bad.l, good.l, nil, bad.e)
			checkMinus(t, good.name+" and "+bad.name, good.l, bad.l, nil, bad.e)
		}
		for _, other := range faulty(t) {
			checkUnion(t, bad.name+" and "+other.name, bad.l, other.l, nil, bad.e)
			checkMinus(t, bad.name+" and "+other.name, bad.l, other.l, nil, bad.e)
		}
	}
}

// TestPairsOfOneList: promise 7.2, both sets may be parts of one list, which stays as it is.
func TestPairsOfOneList(t *testing.T) {
	l, kept := lend(t, ids(t, "0.1 0.2 1.1 1.2 7.1"))
	union, e := dots.Union(l, l)
	checkSet(t, "Union of a list with itself", union, e, ids(t, "0.1 0.2 1.1 1.2 7.1"), api.OK)
	union, e = dots.Union(l[1:3], l[2:])
	checkSet(t, "Union of parts", union, e, ids(t, "0.2 1.1 1.2 7.1"), api.OK)
	rest, e := dots.Minus(l, l)
	checkSet(t, "Minus of a list and itself", rest, e, nil, api.OK)
	rest, e = dots.Minus(l[:4], l[1:3])
	checkSet(t, "Minus of parts", rest, e, ids(t, "0.1 1.2"), api.OK)
	kept()
}

// TestBeyond: promise 7.2, the elements that are not within a vector, whose elements may be any.
func TestBeyond(t *testing.T) {
	for _, c := range []struct {
		l    string
		v    api.Vec
		want string
	}{
		{"", api.Vec{}, ""},
		{"", api.Vec{1, 2, 3}, ""},
		{"1.3 1.4 1.6 2.1", api.Vec{}, "1.3 1.4 1.6 2.1"},
		{"1.3 1.4 1.6 2.1", api.Vec{0, 2}, "1.3 1.4 1.6 2.1"},
		{"1.3 1.4 1.6 2.1", api.Vec{0, 3}, "1.4 1.6 2.1"},
		{"1.3 1.4 1.6 2.1", api.Vec{0, 5}, "1.6 2.1"},
		{"1.3 1.4 1.6 2.1", api.Vec{0, 6}, "2.1"},
		{"1.3 1.4 1.6 2.1", api.Vec{0, 4, 1}, "1.6"},
		{"1.3 1.4 1.6 2.1", api.Vec{0, 0, 1}, "1.3 1.4 1.6"},
		{"1.3 1.4 1.6 2.1", api.Vec{9, 6, 1}, ""},
		{"1.3 1.4 1.6 2.1", api.Vec{9, 9, 9, 9, 9, 9, 9, 9}, ""},
		{"0.1 7.1048576", api.Vec{maxCount}, "7.1048576"},
		{"0.1 7.1048576", api.Vec{0, 0, 0, 0, 0, 0, 0, maxCount - 1}, "0.1 7.1048576"},
		{"0.1 7.1048576", api.Vec{0, 0, 0, 0, 0, 0, 0, maxCount}, "0.1"},
		{"0.1 0.2 7.1048576", api.Vec{1, 0, 0, 0, 0, 0, 0, maxCount + 1}, "0.2"},
		{"0.1 3.4 7.1048576", api.Vec{math.MaxUint32, 0, 0, 3}, "3.4 7.1048576"},
	} {
		checkBeyond(t, c.l, ids(t, c.l), c.v, ids(t, c.want), api.OK)
	}
	for _, k := range wholes(t) {
		checkBeyond(t, k.name, k.l, api.Vec{}, k.l, api.OK)
	}
	for _, bad := range faulty(t) {
		for _, v := range []api.Vec{{}, {9, 9, 9}, {maxCount + 1}, {0, 0, math.MaxUint32}} {
			checkBeyond(t, bad.name, bad.l, v, nil, bad.e)
		}
	}
}

// checkFold holds what Fold of v and l returns: the vector is the zero one beside an error.
func checkFold(t *testing.T, name string, v api.Vec, l []api.Id, more api.Vec, left []api.Id, e api.Errno) {
	t.Helper()
	given, kept := lend(t, l)
	got, rest, gotE := dots.Fold(v, given)
	if got != more {
		t.Errorf("Fold of %v and %s: %v; want %v", v, name, got, more)
	}
	checkSet(t, "Fold of "+name, rest, gotE, left, e)
	kept()
}

// TestFold: promise 7.3, the chapter's example first; elements within, next, behind a gap, and next only because of an element before.
func TestFold(t *testing.T) {
	for _, c := range []struct {
		v    api.Vec
		l    string
		more api.Vec
		left string
	}{
		{api.Vec{0, 2}, "1.3 1.4 1.6 2.1", api.Vec{0, 4, 1}, "1.6"},
		{api.Vec{}, "", api.Vec{}, ""},
		{api.Vec{1, 2, 3}, "", api.Vec{1, 2, 3}, ""},
		{api.Vec{}, "0.1", api.Vec{1}, ""},
		{api.Vec{}, "0.2", api.Vec{}, "0.2"},
		{api.Vec{}, "0.1 0.2 0.3", api.Vec{3}, ""},
		{api.Vec{}, "0.1 0.3 0.4", api.Vec{1}, "0.3 0.4"},
		{api.Vec{2}, "0.1 0.2", api.Vec{2}, ""},
		{api.Vec{2}, "0.1 0.3", api.Vec{3}, ""},
		{api.Vec{2}, "0.2 0.4", api.Vec{2}, "0.4"},
		{api.Vec{5}, "0.2 0.4 0.6 0.8", api.Vec{6}, "0.8"},
		{api.Vec{0, 3}, "1.3 1.4 1.6 2.1", api.Vec{0, 4, 1}, "1.6"},
		{api.Vec{0, 5}, "1.3 1.4 1.6 2.1", api.Vec{0, 6, 1}, ""},
		{api.Vec{0, 1}, "1.3 1.4 1.6 2.1", api.Vec{0, 1, 1}, "1.3 1.4 1.6"},
		{api.Vec{0, 2, 5}, "1.3 1.4 1.6 2.1", api.Vec{0, 4, 5}, "1.6"},
		{api.Vec{0, 2, 0, 7}, "0.2 1.3 2.1 2.2 2.4 3.8 3.10 7.1", api.Vec{0, 3, 2, 8, 0, 0, 0, 1}, "0.2 2.4 3.10"},
		{api.Vec{maxCount - 1}, "0.1048576", api.Vec{maxCount}, ""},
		{api.Vec{maxCount - 2}, "0.1048576", api.Vec{maxCount - 2}, "0.1048576"},
		{api.Vec{maxCount - 2}, "0.1048575 0.1048576", api.Vec{maxCount}, ""},
		{api.Vec{maxCount}, "0.1048576 7.1", api.Vec{maxCount, 0, 0, 0, 0, 0, 0, 1}, ""},
		{api.Vec{255}, "0.256 0.257", api.Vec{257}, ""},
		{api.Vec{65535}, "0.65536 0.65538", api.Vec{65536}, "0.65538"},
	} {
		checkFold(t, c.l, c.v, ids(t, c.l), c.more, ids(t, c.left), api.OK)
	}
}

// TestFoldMost: promise 7.3, 64 elements that go on from one another, and such behind a gap.
func TestFoldMost(t *testing.T) {
	for origin := range api.MaxOrigins {
		l := make([]api.Id, 64)
		for i := range l {
			l[i] = api.Id{Origin: origin, Seq: uint32(8 + i)}
		}
		var v, all api.Vec
		v[origin], all[origin] = 7, 71
		checkFold(t, "64 that go on", v, l, all, nil, api.OK)
		checkFold(t, "64 within", all, l, all, nil, api.OK)
		v[origin], all[origin] = 6, 6
		checkFold(t, "64 behind a gap", v, l, all, l, api.OK)
		v[origin], all[origin] = 40, 71
		checkFold(t, "64, some of them within", v, l, all, nil, api.OK)
		v[origin], all[origin] = 7, 37
		checkFold(t, "63 with a gap", v, slices.Delete(slices.Clone(l), 30, 31), all, l[31:], api.OK)
	}
}

// TestFoldErrors: promise 7.3, a vector that is not valid comes before a list that is no set.
func TestFoldErrors(t *testing.T) {
	vectors := []api.Vec{{maxCount + 1}, {0, 2, 0, 0, 0, 0, 0, maxCount + 1}, {0, 2, math.MaxUint32}, {0, 1 << 31}}
	for _, k := range append(wholes(t), faulty(t)...) {
		for _, v := range vectors {
			checkFold(t, k.name, v, k.l, api.Vec{}, nil, api.ErrRange)
		}
	}
	for _, bad := range faulty(t) {
		for _, v := range []api.Vec{{}, {0, 2}, {maxCount, maxCount, maxCount, maxCount, maxCount, maxCount, maxCount, maxCount}} {
			checkFold(t, bad.name, v, bad.l, api.Vec{}, nil, bad.e)
		}
	}
}
