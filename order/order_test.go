package order_test

import (
	"math"
	"slices"
	"testing"

	"casement/api"
	"casement/order"
)

// list is numbers, in order.
func list(l ...int) []int { return l }

// alone are things without owners, each of its own band and raised at its own time.
func alone(n int) []api.Item {
	var l []api.Item
	for i := range n {
		l = append(l, api.Item{Client: i + 1, Band: i % api.Bands, Raised: i, Born: 2 * i})
	}
	return l
}

// owned are the things 1, 2 and so on, whose owners are given; they came in this order.
func owned(owners ...int) []api.Item {
	var l []api.Item
	for i, owner := range owners {
		l = append(l, api.Item{Client: i + 1, Owner: owner, Born: i})
	}
	return l
}

// born gives things the times at which they came.
func born(l []api.Item, times ...int) []api.Item {
	for i, when := range times {
		l[i].Born = when
	}
	return l
}

// ring is things that go round: each one's owner is the next one, the last one's the first one.
func ring(n int) []api.Item {
	l := alone(n)
	for i := range l {
		l[i].Owner = l[(i+1)%n].Client
	}
	return l
}

// everywhere puts a thing into a list at each place, and behind it.
func everywhere(l []api.Item, it api.Item) [][]api.Item {
	var more [][]api.Item
	for i := range len(l) + 1 {
		more = append(more, slices.Insert(slices.Clone(l), i, it))
	}
	return more
}

// refused holds that things may not be stacked, and that nothing is told of them.
func refused(t *testing.T, l []api.Item, want api.Errno) {
	t.Helper()
	if e := order.Check(l); e != want {
		t.Errorf("Check(%v) = %d, not %d", l, e, want)
	}
	if o := order.Owners(l); len(o) > 0 {
		t.Errorf("Owners(%v) = %v", l, o)
	}
	if b := order.Bands(l); len(b) > 0 {
		t.Errorf("Bands(%v) = %v", l, b)
	}
	if o, e := order.Order(l); len(o) > 0 || e != want {
		t.Errorf("Order(%v) = %v, %d, not %d", l, o, e, want)
	}
}

// allowed holds that things may be stacked, and that something is told of each.
func allowed(t *testing.T, l []api.Item) {
	t.Helper()
	if e := order.Check(l); e != api.OK {
		t.Errorf("Check(%v) = %d", l, e)
	}
	if o := order.Owners(l); len(o) != len(l) {
		t.Errorf("Owners(%v) = %v", l, o)
	}
	if b := order.Bands(l); len(b) != len(l) {
		t.Errorf("Bands(%v) = %v", l, b)
	}
	if o, e := order.Order(l); len(o) != len(l) || e != api.OK {
		t.Errorf("Order(%v) = %v, %d", l, o, e)
	}
}

func TestCheckOK(t *testing.T) {
	allowed(t, nil)
	allowed(t, []api.Item{})
	for _, n := range list(1, 2, 5, 127, 128) {
		allowed(t, alone(n))
		allowed(t, ring(n))
	}
	for band := range api.Bands {
		allowed(t, []api.Item{{Client: 1, Band: band}})
		allowed(t, []api.Item{{Client: 2, Band: band}, {Client: 1, Band: band}})
	}
	for _, n := range list(0, 1, 2, 1000, math.MaxInt32, math.MaxInt32+1, math.MaxInt-1, math.MaxInt) {
		allowed(t, []api.Item{{Client: max(n, 1), Raised: n, Born: n}})
		allowed(t, []api.Item{{Client: 3}, {Client: max(n, 1), Raised: n}, {Client: 4, Born: n}})
	}
	for _, owner := range list(math.MinInt, -1, 0, 1, 2, 3, 77, math.MaxInt) {
		for _, modal := range []bool{false, true} {
			allowed(t, []api.Item{{Client: 1, Owner: owner, Modal: modal}, {Client: 2, Owner: 1}, {Client: 3, Owner: owner}})
		}
	}
}

// TestCheckLimit: too many is told ahead of all that may be wrong with one of them.
func TestCheckLimit(t *testing.T) {
	for _, l := range [][]api.Item{
		alone(129), alone(130), alone(5000), ring(129), make([]api.Item, 129), make([]api.Item, 100000), append(alone(128), api.Item{}), append(alone(128), api.Item{Client: 5}),
		append(alone(128), api.Item{Client: 999, Band: -1}), append(alone(128), api.Item{Client: 999, Born: -1}), slices.Repeat(alone(3), 43),
	} {
		refused(t, l, api.ErrLimit)
	}
	for _, l := range [][]api.Item{make([]api.Item, 1), make([]api.Item, 2), make([]api.Item, 128), slices.Repeat(alone(2), 64), append(alone(127), api.Item{Client: 5})} {
		refused(t, l, api.ErrArg)
	}
}

// wrong things may not be stacked, whatever the others are.
func wrong() []api.Item {
	var l []api.Item
	for _, n := range list(-1, -2, -77, math.MinInt32, math.MinInt32-1, math.MinInt+1, math.MinInt) {
		l = append(l, api.Item{Client: n}, api.Item{Client: 500, Band: n}, api.Item{Client: 500, Raised: n}, api.Item{Client: 500, Born: n})
		l = append(l, api.Item{Client: n, Band: 5, Raised: 7, Born: 7}, api.Item{Client: 500, Band: 4, Raised: n, Born: 7}, api.Item{Client: 500, Band: 1, Raised: 7, Born: n})
	}
	for _, n := range list(5, 6, 77, math.MaxInt32, math.MaxInt) {
		l = append(l, api.Item{Client: 500, Band: n}, api.Item{Client: 500, Band: n, Raised: 4, Born: 4})
	}
	return append(l, api.Item{}, api.Item{Client: 0, Band: 1, Owner: 1, Raised: 1, Born: 1})
}

func TestCheckWrong(t *testing.T) {
	for _, n := range list(0, 1, 2, 6, 127) {
		for _, it := range wrong() {
			for _, l := range everywhere(alone(n), it) {
				if n < 10 {
					refused(t, l, api.ErrArg)
				} else if e := order.Check(l); e != api.ErrArg {
					t.Errorf("Check of %v and %d others = %d", it, n, e)
				}
			}
		}
	}
}

func TestCheckTwice(t *testing.T) {
	for _, n := range list(2, 3, 7, 128) {
		for i := range n {
			for j := range i {
				l := alone(n)
				l[i].Client = l[j].Client
				if e := order.Check(l); e != api.ErrArg {
					t.Errorf("Check of %d with %d and %d alike = %d", n, j, i, e)
				}
			}
		}
	}
	refused(t, []api.Item{{Client: 1}, {Client: 1}}, api.ErrArg)
	refused(t, []api.Item{{Client: 1}, {Client: 2, Owner: 1}, {Client: 1, Band: 4, Raised: 9, Born: 9, Owner: 2}}, api.ErrArg)
	refused(t, []api.Item{{Client: math.MaxInt}, {Client: 3}, {Client: math.MaxInt, Born: 1}}, api.ErrArg)
}

// told is a case of Owners.
type told struct {
	l    []api.Item
	want []int
}

func checkOwners(t *testing.T, cases []told) {
	t.Helper()
	for _, c := range cases {
		if got := order.Owners(c.l); !slices.Equal(got, c.want) {
			t.Errorf("Owners(%v) = %v, not %v", c.l, got, c.want)
		}
	}
}

func TestOwners(t *testing.T) {
	checkOwners(t, []told{
		{nil, nil}, {[]api.Item{}, nil},
		{owned(0), list(0)}, {owned(1), list(0)}, {owned(2), list(0)}, {owned(-1), list(0)}, {owned(math.MaxInt), list(0)}, {owned(math.MinInt), list(0)},
		{owned(0, 0, 0), list(0, 0, 0)}, {owned(0, 1, 1), list(0, 1, 1)}, {owned(2, 0, 2), list(2, 0, 2)}, {owned(3, 3, 0), list(3, 3, 0)},
		{owned(0, 1, 2, 3), list(0, 1, 2, 3)}, {owned(2, 3, 4, 0), list(2, 3, 4, 0)}, {owned(4, 1, 2, 0), list(4, 1, 2, 0)},
		{owned(1, 2, 3), list(0, 0, 0)}, {owned(1, 1, 2), list(0, 1, 2)}, {owned(1, 77, 2), list(0, 0, 2)}, {owned(5, 4, -1, -2), list(0, 4, 0, 0)},
		{[]api.Item{{Client: 9, Owner: 4}, {Client: 4, Owner: 1}, {Client: 7, Owner: 9}}, list(4, 0, 9)},
		{[]api.Item{{Client: 9, Owner: 1}, {Client: 4, Owner: 2}, {Client: 7, Owner: 0}}, list(0, 0, 0)}, // places are no clients
		{[]api.Item{{Client: math.MaxInt, Owner: 4}, {Client: 4, Owner: math.MaxInt - 1}, {Client: 7, Owner: math.MaxInt}}, list(4, 0, math.MaxInt)},
	})
	first := alone(128)
	want := slices.Repeat(list(1), 128)
	want[0] = 0
	for i := range first {
		first[i].Owner = 1
	}
	checkOwners(t, []told{{first, want}})
}

// TestOwnersRings: of things that go round the youngest has none, and it alone.
func TestOwnersRings(t *testing.T) {
	checkOwners(t, []told{
		{born(owned(2, 1), 3, 5), list(2, 0)}, // the chapter's example
		{born(owned(2, 1), 5, 3), list(0, 1)}, {born(owned(2, 1), 4, 4), list(2, 0)},
		{born(owned(2, 1), 0, math.MaxInt), list(2, 0)}, {born(owned(2, 1), math.MaxInt, 0), list(0, 1)}, {born(owned(2, 1), math.MaxInt, math.MaxInt), list(2, 0)},
		{born(owned(2, 3, 1), 1, 2, 3), list(2, 3, 0)}, {born(owned(2, 3, 1), 1, 3, 2), list(2, 0, 1)}, {born(owned(2, 3, 1), 3, 2, 1), list(0, 3, 1)}, {born(owned(3, 1, 2), 1, 3, 2), list(3, 0, 2)},
		{born(owned(2, 3, 1), 0, 0, 0), list(2, 3, 0)}, {born(owned(2, 3, 1), 4, 4, 0), list(2, 0, 1)}, {born(owned(2, 3, 1), 4, 0, 4), list(2, 3, 0)},
		{[]api.Item{{Client: 9, Owner: 4, Born: 6}, {Client: 4, Owner: 9, Born: 6}}, list(0, 9)}, {[]api.Item{{Client: 4, Owner: 9, Born: 6}, {Client: 9, Owner: 4, Born: 6}}, list(9, 0)},
		{[]api.Item{{Client: 9, Owner: 4, Born: 5}, {Client: 4, Owner: 9, Born: 6}}, list(4, 0)},
		// when they were raised, their bands and what is modal play no part
		{[]api.Item{{Client: 1, Owner: 2, Born: 5, Band: 0, Raised: 0}, {Client: 2, Owner: 1, Born: 4, Band: 4, Raised: 9, Modal: true}}, list(0, 1)},
		// two rings, and one alone
		{born(owned(2, 1, 4, 3, 5), 1, 2, 4, 3, 9), list(2, 0, 0, 3, 0)}, {born(owned(4, 3, 2, 1), 9, 1, 2, 3), list(0, 3, 0, 1)},
	})
}

// TestOwnersAboutRings: what doesn't go round itself keeps its owner, old or young.
func TestOwnersAboutRings(t *testing.T) {
	checkOwners(t, []told{
		{born(owned(2, 3, 1, 2), 3, 9, 0, 0), list(2, 0, 1, 2)}, {born(owned(2, 3, 1, 2), 3, 9, 0, 10), list(2, 0, 1, 2)},
		{born(owned(2, 3, 2), 9, 5, 4), list(2, 0, 2)}, {born(owned(2, 3, 2), 9, 4, 5), list(2, 3, 0)}, {born(owned(2, 3, 2), 0, 4, 5), list(2, 3, 0)},
		{born(owned(2, 3, 4, 3), 9, 8, 1, 0), list(2, 3, 0, 3)}, {born(owned(2, 3, 4, 3), 9, 8, 0, 1), list(2, 3, 4, 0)},
		{born(owned(2, 2, 1, 3), 0, 1, 9, 5), list(2, 0, 1, 3)}, {born(owned(2, 1, 1, 2, 3, 4), 1, 2, 9, 9, 9, 9), list(2, 0, 1, 2, 3, 4)},
		{born(owned(2, 1, 1, 2, 3, 4), 2, 1, 0, 0, 9, 9), list(0, 1, 1, 2, 3, 4)}, {born(owned(77, 1, 4, 3, 3), 5, 9, 1, 2, 9), list(0, 1, 4, 0, 3)},
	})
}

// TestOwnersLongRings: rings as long as there may be, with the youngest at each place.
func TestOwnersLongRings(t *testing.T) {
	for _, n := range list(2, 3, 50, 127, 128) {
		for youngest := range n {
			l := ring(n)
			l[youngest].Born = 1000
			want := make([]int, n)
			for i := range l {
				want[i] = l[i].Owner
			}
			want[youngest] = 0
			checkOwners(t, []told{{l, want}})
		}
	}
	l := ring(127) // and one that isn't in it, younger than all
	l = append(l, api.Item{Client: 200, Owner: 5, Born: 99999})
	if o := order.Owners(l); o[127] != 5 || o[126] != 0 || o[0] != 2 {
		t.Errorf("Owners of a ring of 127 and one more = %v", o)
	}
}

func TestBands(t *testing.T) {
	banded := func(l []api.Item, bands ...int) []api.Item {
		for i, band := range bands {
			l[i].Band = band
		}
		return l
	}
	for _, c := range []told{
		{nil, nil}, {[]api.Item{{Client: 1, Band: api.Tiled}, {Client: 2, Band: api.Float, Owner: 3}, {Client: 3, Band: api.Full}}, list(1, 4, 4)}, // the chapter's example
		{banded(owned(0, 0, 0, 0, 0), 0, 1, 2, 3, 4), list(0, 1, 2, 3, 4)}, {banded(owned(0, 0, 0, 0, 0), 4, 3, 2, 1, 0), list(4, 3, 2, 1, 0)},
		{banded(owned(0, 1), 2, 1), list(2, 2)}, {banded(owned(0, 1), 1, 2), list(1, 2)}, {banded(owned(0, 1), 2, 2), list(2, 2)}, {banded(owned(2, 0), 0, 4), list(4, 4)}, {banded(owned(2, 0), 4, 0), list(4, 0)},
		{banded(owned(0, 1, 2, 3), 0, 0, 0, 0), list(0, 0, 0, 0)}, {banded(owned(0, 1, 2, 3), 3, 0, 4, 1), list(3, 3, 4, 4)}, {banded(owned(0, 1, 2, 3), 1, 3, 2, 0), list(1, 3, 3, 3)}, {banded(owned(0, 1, 2, 3), 1, 2, 3, 4), list(1, 2, 3, 4)},
		{banded(owned(0, 1, 2, 3), 4, 3, 2, 1), list(4, 4, 4, 4)}, {banded(owned(2, 3, 4, 0), 1, 0, 0, 2), list(2, 2, 2, 2)}, {banded(owned(0, 1, 1), 2, 3, 0), list(2, 3, 2)},
		{banded(owned(1, 1), 3, 1), list(3, 3)}, {banded(owned(77, -1), 1, 2), list(1, 2)},
		// of rings the youngest is in its own band, the others at least in its
		{banded(born(owned(2, 1), 1, 2), 0, 3), list(3, 3)}, {banded(born(owned(2, 1), 1, 2), 3, 0), list(3, 0)}, {banded(born(owned(2, 1), 2, 1), 0, 3), list(0, 3)}, {banded(born(owned(2, 1), 2, 1), 3, 0), list(3, 3)},
		{banded(born(owned(2, 3, 1), 1, 9, 2), 1, 2, 0), list(2, 2, 2)}, {banded(born(owned(2, 3, 1), 1, 9, 2), 1, 0, 3), list(1, 0, 3)}, {banded(born(owned(2, 3, 1), 1, 9, 2), 4, 0, 1), list(4, 0, 4)}, {banded(born(owned(2, 3, 1, 1), 1, 9, 2, 5), 0, 2, 1, 0), list(2, 2, 2, 2)},
	} {
		if got := order.Bands(c.l); !slices.Equal(got, c.want) {
			t.Errorf("Bands(%v) = %v, not %v", c.l, got, c.want)
		}
	}
	long := owned(make([]int, 128)...) // each the one's ahead of it
	for i := range long {
		long[i].Owner = i
	}
	long[0].Band = api.Full
	if got := order.Bands(long); !slices.Equal(got, slices.Repeat(list(4), 128)) {
		t.Errorf("Bands of a row of 128 = %v", got)
	}
}

func checkOrder(t *testing.T, cases []told) {
	t.Helper()
	for _, c := range cases {
		if got, e := order.Order(c.l); e != api.OK || !slices.Equal(got, c.want) {
			t.Errorf("Order(%v) = %v, %d, not %v", c.l, got, e, c.want)
		}
	}
}

// TestOrderAlone: each thing that has no owner stands by its band, then by when it was raised, came, and its client.
func TestOrderAlone(t *testing.T) {
	checkOrder(t, []told{
		{nil, nil}, {[]api.Item{}, nil}, {[]api.Item{{Client: 7}}, list(7)}, {[]api.Item{{Client: 7, Owner: 7}}, list(7)}, {[]api.Item{{Client: 7, Owner: -7, Modal: true}}, list(7)},
		{[]api.Item{{Client: 1, Band: 4}, {Client: 2, Band: 3}, {Client: 3, Band: 2}, {Client: 4, Band: 1}, {Client: 5, Band: 0}}, list(5, 4, 3, 2, 1)},
		{[]api.Item{{Client: 1, Band: 1, Raised: 9, Born: 9}, {Client: 2, Band: 2, Raised: 0, Born: 0}}, list(1, 2)}, {[]api.Item{{Client: 2, Band: 2, Raised: 0, Born: 0}, {Client: 1, Band: 1, Raised: 9, Born: 9}}, list(1, 2)},
		{[]api.Item{{Client: 1, Raised: 3, Born: 0}, {Client: 2, Raised: 1, Born: 9}, {Client: 3, Raised: 2, Born: 5}}, list(2, 3, 1)}, {[]api.Item{{Client: 1, Raised: 3, Born: 4}, {Client: 2, Raised: 3, Born: 2}, {Client: 3, Raised: 3, Born: 3}}, list(2, 3, 1)},
		{[]api.Item{{Client: 3, Raised: 3, Born: 4}, {Client: 1, Raised: 3, Born: 4}, {Client: 2, Raised: 3, Born: 4}}, list(1, 2, 3)}, {[]api.Item{{Client: 3}, {Client: 1, Modal: true}, {Client: 2}}, list(1, 2, 3)},
		{[]api.Item{{Client: 1, Raised: math.MaxInt}, {Client: 2, Raised: 0}, {Client: 3, Raised: math.MaxInt - 1}}, list(2, 3, 1)}, {[]api.Item{{Client: 1, Born: math.MaxInt}, {Client: 2, Born: 0}, {Client: math.MaxInt, Born: 0}}, list(2, math.MaxInt, 1)},
	})
	l := alone(128)
	var want []int
	for band := range api.Bands {
		for _, it := range l {
			if it.Band == band {
				want = append(want, it.Client)
			}
		}
	}
	checkOrder(t, []told{{l, want}})
}

// TestOrderOwned: what has an owner waits for it, and then stands by what it is itself.
func TestOrderOwned(t *testing.T) {
	checkOrder(t, []told{
		{[]api.Item{{Client: 1, Band: api.Tiled}, {Client: 2, Band: api.Float, Owner: 3}, {Client: 3, Band: api.Full}}, list(1, 3, 2)}, // the chapter's example
		{[]api.Item{{Client: 1, Raised: 9}, {Client: 2, Owner: 1}}, list(1, 2)}, {[]api.Item{{Client: 1, Owner: 2}, {Client: 2, Raised: 9}}, list(2, 1)}, {[]api.Item{{Client: 1, Band: 4}, {Client: 2, Owner: 1, Raised: 5}, {Client: 3, Band: 3, Raised: 99}}, list(3, 1, 2)},
		// others come between an owner and its own, where they were raised meanwhile
		{[]api.Item{{Client: 1, Raised: 1}, {Client: 2, Raised: 2}, {Client: 3, Owner: 1, Raised: 3}}, list(1, 2, 3)}, {[]api.Item{{Client: 1, Raised: 2}, {Client: 2, Raised: 3}, {Client: 3, Owner: 1, Raised: 1}}, list(1, 3, 2)},
		{[]api.Item{{Client: 1, Raised: 2}, {Client: 2, Raised: 4}, {Client: 3, Owner: 1, Raised: 1}, {Client: 4, Owner: 1, Raised: 5}, {Client: 5, Owner: 1, Raised: 3}}, list(1, 3, 5, 2, 4)},
		// its own wait for it, and theirs for them
		{[]api.Item{{Client: 1, Raised: 9}, {Client: 2, Owner: 1, Raised: 5}, {Client: 3, Owner: 2, Raised: 1}, {Client: 4, Owner: 1, Raised: 3}, {Client: 5, Raised: 8}}, list(5, 1, 4, 2, 3)},
		{[]api.Item{{Client: 3, Owner: 2, Raised: 1}, {Client: 2, Owner: 1, Raised: 5}, {Client: 1, Raised: 9}, {Client: 4, Owner: 3}}, list(1, 2, 3, 4)},
		// its own are by when they came, and by client
		{[]api.Item{{Client: 1, Raised: 9}, {Client: 2, Owner: 1, Born: 5}, {Client: 3, Owner: 1, Born: 4}, {Client: 5, Owner: 1, Born: 4}, {Client: 4, Owner: 1, Born: 4}}, list(1, 3, 4, 5, 2)},
		// a band above the owner's
		{[]api.Item{{Client: 1, Band: 1, Raised: 9}, {Client: 2, Band: 2, Owner: 1}, {Client: 3, Band: 1, Raised: 99}, {Client: 4, Band: 2, Raised: 1}}, list(1, 3, 2, 4)},
		// lifted by the owner's owner
		{[]api.Item{{Client: 1, Band: 3, Raised: 1}, {Client: 2, Band: 0, Owner: 1, Raised: 2}, {Client: 3, Band: 2, Owner: 2, Raised: 3}, {Client: 4, Band: 3, Raised: 0}, {Client: 5, Band: 2, Raised: 99}}, list(5, 4, 1, 2, 3)},
		// rings, from their youngest up
		{born(owned(2, 1), 1, 2), list(2, 1)}, {born(owned(2, 1), 2, 1), list(1, 2)}, {born(owned(2, 3, 1), 1, 9, 2), list(2, 1, 3)}, {born(owned(2, 3, 1), 9, 1, 2), list(1, 3, 2)},
		{[]api.Item{{Client: 1, Owner: 2, Born: 1, Raised: 1}, {Client: 2, Owner: 1, Born: 2, Raised: 8}, {Client: 3, Raised: 5}}, list(3, 2, 1)},
	})
	long := owned(make([]int, 128)...) // each the next one's, the highest last
	for i := range long {
		long[i].Owner = i + 2
	}
	var down []int
	for n := range 128 {
		down = append(down, 128-n)
	}
	checkOrder(t, []told{{long, down}})
}
