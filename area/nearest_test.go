package area_test

import (
	"slices"
	"testing"

	"casement/api"
	"casement/area"
)

// near is a case of Nearest: a rectangle, and the place of its screen.
type near struct {
	l    []api.Output
	r    api.Rect
	want int
}

func checkNearest(t *testing.T, cases []near) {
	t.Helper()
	for _, c := range cases {
		if i, ok := area.Nearest(c.l, c.r); ok != (c.want >= 0) || i != max(c.want, 0) {
			t.Errorf("Nearest(%v, %v) = %d, %v, not %d", c.l, c.r, i, ok, c.want)
		}
	}
}

// TestNearestMost: of those that have places of it the one that has most, the first of those that have as many.
func TestNearestMost(t *testing.T) {
	l := screens(rect(0, 0, 100, 50), rect(100, 0, 80, 60), rect(0, 50, 100, 10))
	across := screens(rect(0, 0, 10, 10), rect(0, 0, 20, 20), rect(5, 5, 10, 10), rect(0, 0, 20, 20))
	checkNearest(t, []near{
		{l, rect(95, 0, 10, 10), 0}, {l, rect(94, 0, 10, 10), 0}, {l, rect(96, 0, 10, 10), 1}, {l, rect(10, 10, 5, 5), 0}, {l, rect(120, 10, 5, 5), 1}, {l, rect(0, 0, 180, 60), 0}, {l, rect(60, 0, 120, 60), 1},
		{l, rect(99, 59, 1, 1), 2}, {l, rect(99, 49, 1, 1), 0}, {l, rect(99, 49, 1, 3), 2}, {l, rect(99, 49, 2, 2), 1}, {l, rect(99, 49, 1, 2), 0}, {l, rect(99, 49, 3, 2), 1}, {l, rect(0, 48, 50, 4), 0}, {l, rect(0, 47, 50, 4), 0}, {l, rect(0, 49, 50, 3), 2},
		{l, rect(90, 40, 10, 300), 0}, {l, rect(90, 41, 10, 300), 2}, {l, plane, 0}, {screens(rect(0, 0, 5, 5), plane, rect(0, 0, 9, 9)), plane, 1}, {screens(plane, plane), rect(low, low, 1, 1), 0},
		{l, rect(-500, 59, 501, 400), 2}, {l, rect(179, -400, 1000, 401), 1}, {l, rect(-9, -9, 10, 10), 0},
		{across, rect(0, 0, 5, 5), 0}, {across, rect(0, 0, 11, 5), 1}, {across, rect(5, 5, 5, 5), 0}, {across, rect(10, 10, 5, 5), 1}, {across, rect(0, 0, 99, 99), 1}, {slices.Repeat(across, 300), rect(11, 11, 50, 50), 1},
		// one place is more than a screen that is touched all along, or that stands about its middle
		{screens(rect(0, 0, 10, 10), rect(19, 9, 50, 50)), rect(10, 0, 10, 10), 1}, {screens(rect(15, 5, 0, 0), rect(0, 0, 11, 1)), rect(10, 0, 10, 10), 1},
		// wide but flat is less than narrow but high
		{screens(rect(0, 0, 50, 1), rect(0, 1, 6, 9)), rect(0, 0, 50, 10), 1}, {screens(rect(0, 0, 50, 2), rect(0, 2, 6, 9)), rect(0, 0, 50, 11), 0},
	})
}

// TestNearestAway: where none has a place of it, squares of the distances both ways are added.
func TestNearestAway(t *testing.T) {
	l := screens(rect(0, 0, 100, 50), rect(100, 0, 80, 60))
	mid := rect(100, 100, 10, 10)
	one := func(x, y int) api.Rect { return rect(x, y, 1, 1) }
	checkNearest(t, []near{
		{l, rect(300, 0, 10, 10), 1}, {l, rect(-300, 0, 10, 10), 0}, {l, rect(180, 0, 10, 10), 1}, {l, rect(0, 50, 90, 10), 0}, {l, rect(0, 60, 180, 10), 1}, {l, rect(90, 51, 5, 5), 0}, {l, rect(95, 51, 5, 5), 1}, {l, rect(99, 52, 1, 5), 1}, {l, rect(93, 56, 2, 5), 1}, {l, rect(93, 55, 1, 5), 0},
		// one way: to the left, right, up, down
		{screens(rect(90, 100, 7, 10), rect(112, 100, 7, 10)), mid, 1}, {screens(rect(90, 100, 8, 10), rect(113, 100, 7, 10)), mid, 0}, {screens(rect(100, 90, 10, 7), rect(100, 112, 10, 7)), mid, 1}, {screens(rect(100, 90, 10, 8), rect(100, 113, 10, 7)), mid, 0},
		{screens(rect(90, 100, 7, 10), rect(100, 90, 10, 8)), mid, 1}, {screens(rect(100, 90, 10, 7), rect(90, 100, 8, 10)), mid, 1},
		// as near: the first one
		{screens(rect(90, 100, 7, 10), rect(113, 100, 7, 10)), mid, 0}, {screens(rect(113, 100, 7, 10), rect(90, 100, 7, 10)), mid, 0}, {screens(rect(90, 104, 7, 2), rect(100, 90, 10, 7)), mid, 0}, {screens(one(5, 5), rect(113, 90, 7, 50), rect(90, 100, 7, 10), rect(112, 0, 3, 3), rect(100, 113, 2, 2)), mid, 1},
		// both ways: 3 and 4 are as far as 5, nearer than 6, 2 and 2 nearer than 3, 1 and 4 farther than 3 and 2
		{screens(one(113, 114), one(115, 100)), mid, 0}, {screens(one(115, 100), one(113, 114)), mid, 0}, {screens(one(116, 105), one(96, 95)), mid, 1}, {screens(one(113, 105), one(112, 112)), mid, 1}, {screens(one(111, 114), one(97, 112)), mid, 1}, {screens(one(94, 113), one(114, 95)), mid, 1}, {screens(one(114, 95), one(94, 113)), mid, 0}, {screens(one(103, 80), one(85, 113), one(125, 123)), mid, 1},
		// touching, at a side or at a corner, is no distance; one place is some
		{screens(one(111, 100), one(110, 100)), mid, 1}, {screens(one(111, 109), one(110, 110)), mid, 1}, {screens(one(98, 100), one(99, 99)), mid, 1}, {screens(one(109, 111), one(99, 110)), mid, 1}, {screens(one(109, 98), one(110, 99)), mid, 1}, {screens(one(110, 99), rect(90, 90, 10, 20)), mid, 0}, {screens(one(111, 111), one(111, 110)), mid, 1},
		// over all of the plane, also where both ways are as far as they may be
		{screens(one(high, high), one(high, high-1)), one(low, low), 1}, {screens(one(low, low), one(low+1, low), one(low, low+1)), one(high, high), 1}, {screens(one(high, high)), one(low, low), 0}, {screens(one(high, low), one(low, high), one(high-1, low)), one(low, low), 2}, {screens(one(low, high), one(high, 0)), one(low, low), 0},
		{append(slices.Repeat(screens(one(5, 5)), 1000), output("", one(6, 6)), output("", one(6, 6))), mid, 1000},
	})
}

// TestNearestOfHollow: what has no place has a place of nothing, but stands somewhere.
func TestNearestOfHollow(t *testing.T) {
	l := screens(rect(0, 0, 10, 10), rect(20, 0, 10, 10), rect(0, 20, 10, 10))
	checkNearest(t, []near{
		{l, api.Rect{}, 0}, {l, rect(5, 5, 0, 0), 0}, {l, rect(25, 5, 0, 0), 1}, {l, rect(25, 5, 0, 3), 1}, {l, rect(25, 5, 3, 0), 1}, {l, rect(5, 25, 0, 0), 2}, {l, rect(5, 25, 0, 100), 2}, {l, rect(5, 25, 0, 1), 2},
		{l, rect(10, 0, 0, 5), 0}, {l, rect(15, 0, 0, 5), 0}, {l, rect(16, 0, 0, 5), 1}, {l, rect(20, 0, 0, 5), 1}, {l, rect(30, 0, 0, 5), 1}, {l, rect(0, 15, 5, 0), 0}, {l, rect(0, 16, 5, 0), 2}, {l, rect(0, 30, 5, 0), 2}, {l, rect(5, 5, 20, 0), 0}, {l, rect(11, 5, 20, 0), 1},
		{l, rect(17, 16, 0, 0), 1}, {l, rect(16, 17, 0, 0), 2}, {l, rect(16, 16, 0, 0), 1}, {l, rect(14, 14, 0, 0), 0}, {l, rect(high, low, 0, 0), 1}, {l, rect(low, high, 0, 0), 2}, {l, rect(low, low, all, 0), 0}, {l, rect(15, low, 0, all), 0},
		// screens without places are never in it, but may be near
		{screens(rect(50, 50, 0, 0), rect(0, 0, 10, 10)), rect(40, 40, 20, 20), 0}, {screens(rect(0, 0, 10, 10), rect(50, 50, 0, 9)), rect(40, 40, 20, 20), 1}, {screens(rect(50, 50, 0, 0), rect(59, 59, 10, 10)), rect(40, 40, 20, 20), 1}, {screens(api.Rect{}), rect(40, 40, 20, 20), 0},
		{screens(api.Rect{}, api.Rect{}), api.Rect{}, 0}, {screens(rect(9, 9, 0, 0), rect(8, 8, 0, 0), rect(7, 8, 0, 0)), rect(2, 2, 0, 0), 2}, {screens(rect(7, 8, 0, 4), rect(8, 7, 4, 0)), rect(2, 2, 0, 0), 0},
	})
}

// TestNearestOfNone: there are no screens, or what is asked of is not right, or one of them, wherever it stands.
func TestNearestOfNone(t *testing.T) {
	for _, r := range append(hollow(), rect(0, 0, 9, 9), plane) {
		checkNearest(t, []near{{nil, r, -1}, {[]api.Output{}, r, -1}})
	}
	for _, r := range wrong() {
		checkNearest(t, []near{{nil, r, -1}, {screens(r), r, -1}, {screens(r), rect(0, 0, 9, 9), -1}, {screens(plane), r, -1}, {row(16), r, -1}})
		for _, l := range everywhere(row(4), output("Z", r)) {
			checkNearest(t, []near{{l, rect(0, 0, 9, 9), -1}, {l, rect(12, 2, 2, 2), -1}, {l, rect(500, 500, 5, 5), -1}, {l, rect(0, 0, 0, 0), -1}, {l, plane, -1}})
		}
	}
}

// TestNearestOfNames: they play no part.
func TestNearestOfNames(t *testing.T) {
	for _, name := range []string{"", "A", "a b", "\xff"} {
		l := []api.Output{output(name, rect(0, 0, 9, 9)), output(name, rect(9, 0, 9, 9)), output("A", rect(18, 0, 9, 9))}
		checkNearest(t, []near{{l, rect(0, 0, 1, 1), 0}, {l, rect(10, 0, 1, 1), 1}, {l, rect(20, 0, 1, 1), 2}, {l, rect(50, 0, 1, 1), 2}})
	}
}
