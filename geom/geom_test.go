package geom_test

import (
	"math"
	"testing"

	"casement/api"
	"casement/geom"
)

const (
	low  = api.Low
	high = api.High
	all  = high + 1 - low // how many places the plane has, one way
)

// plane is the greatest rectangle that there is.
var plane = rect(low, low, all, all)

func rect(x, y, w, h int) api.Rect { return api.Rect{X: x, Y: y, W: w, H: h} }

func place(x, y int) api.Point { return api.Point{X: x, Y: y} }

func edges(left, top, right, bottom int) geom.Edges {
	return geom.Edges{Left: left, Top: top, Right: right, Bottom: bottom}
}

// wrong rectangles: off the plane, of lengths below 0, of numbers whose sums and products go round.
func wrong() []api.Rect {
	var l []api.Rect
	for _, run := range [][2]int{
		{low - 1, 1}, {low - 1, 0}, {high + 1, 0}, {high + 1, 1}, {high, 2}, {low, all + 1}, {0, high + 2}, {-1, high + 3},
		{0, -1}, {high, -1}, {low, -1}, {10, -10}, {0, math.MinInt}, {0, math.MaxInt}, {high, math.MaxInt}, {1, math.MaxInt},
		{math.MinInt, 0}, {math.MinInt, 1}, {math.MinInt, math.MaxInt}, {math.MaxInt, 0}, {math.MaxInt, 1}, {math.MaxInt, math.MaxInt},
		{math.MaxInt, math.MinInt}, {math.MinInt, math.MinInt}, {math.MinInt, -1},
	} {
		l = append(l, rect(run[0], 0, run[1], 4), rect(0, run[0], 4, run[1]), rect(run[0], run[0], run[1], run[1]))
	}
	return l
}

// hollow rectangles are right, but have no place.
func hollow() []api.Rect {
	return []api.Rect{
		{}, rect(0, 0, 0, 5), rect(0, 0, 5, 0), rect(2, 3, 0, 0), rect(high, high, 0, 0), rect(low, low, 0, 0),
		rect(high, 0, 0, 4), rect(0, high, 4, 0), rect(low, low, all, 0), rect(low, low, 0, all),
	}
}

// solid rectangles have places: in the middle, at each edge of the plane, all of it.
func solid() []api.Rect {
	return []api.Rect{
		rect(0, 0, 1, 1), rect(0, 0, 4, 4), rect(-2, -3, 5, 9), rect(2, 2, 4, 4), rect(4, 0, 4, 4), rect(-7, 5, 20, 1), rect(5, -7, 1, 20),
		rect(high, high, 1, 1), rect(low, low, 1, 1), rect(high, low, 1, 1), rect(low, high, 1, 1),
		rect(high-3, 0, 4, 2), rect(0, high-3, 2, 4), rect(low, 0, 4, 2), rect(0, low, 2, 4),
		rect(low, 0, all, 1), rect(0, low, 1, all), rect(-1, -1, high+2, high+2), rect(low, low, high+1, high+1), plane,
	}
}

func right() []api.Rect { return append(hollow(), solid()...) }

func every() []api.Rect { return append(wrong(), right()...) }

// far numbers, near ones, and those about the plane's edges.
func numbers() []int {
	return []int{
		math.MinInt, math.MinInt + 1, math.MinInt + all, math.MinInt32, -all - 1, -all, low - 1, low, low + 1, -5, -1,
		0, 1, 2, 5, high - 1, high, high + 1, all - 1, all, all + 1, math.MaxInt32, math.MaxInt - all, math.MaxInt - 1, math.MaxInt,
	}
}

func TestSpan(t *testing.T) {
	for _, c := range []struct{ v, least, most, want int }{
		{5, 1, 9, 5}, {1, 1, 9, 1}, {9, 1, 9, 9}, {0, 1, 9, 1}, {10, 1, 9, 9}, {-4, -3, -2, -3}, {-1, -3, -2, -2}, {7, 7, 7, 7},
		{5, 1, 3, 3}, {5, 9, 3, 9}, {2, 9, 3, 9}, {20, 9, 3, 9}, {6, 9, 3, 9}, // least holds, where most is below it
		{math.MinInt, -2, 2, -2}, {math.MaxInt, -2, 2, 2}, {3, math.MinInt, math.MaxInt, 3},
		{3, math.MaxInt, math.MinInt, math.MaxInt}, {math.MaxInt, math.MinInt, math.MaxInt, math.MaxInt}, {math.MinInt, math.MinInt, math.MaxInt, math.MinInt},
		{1<<53 + 1, 0, math.MaxInt, 1<<53 + 1},
	} {
		if got := geom.Span(c.v, c.least, c.most); got != c.want {
			t.Errorf("Span(%d, %d, %d) = %d, not %d", c.v, c.least, c.most, got, c.want)
		}
	}
}

func TestClamp(t *testing.T) {
	for _, c := range [][2]int{
		{0, 0}, {-1, -1}, {77, 77}, {low, low}, {low + 1, low + 1}, {low - 1, low}, {high, high}, {high - 1, high - 1}, {high + 1, high},
		{-99999, low}, {99999, high}, {math.MinInt, low}, {math.MaxInt, high},
	} {
		if got := geom.Clamp(c[0]); got != c[1] {
			t.Errorf("Clamp(%d) = %d, not %d", c[0], got, c[1])
		}
	}
}

func TestRightAndEmpty(t *testing.T) {
	for _, r := range wrong() {
		if geom.Right(r) || !geom.Empty(r) {
			t.Errorf("%v: Right %v, Empty %v: it is not right", r, geom.Right(r), geom.Empty(r))
		}
	}
	for _, r := range hollow() {
		if !geom.Right(r) || !geom.Empty(r) {
			t.Errorf("%v: Right %v, Empty %v: it is right and empty", r, geom.Right(r), geom.Empty(r))
		}
	}
	for _, r := range solid() {
		if !geom.Right(r) || geom.Empty(r) {
			t.Errorf("%v: Right %v, Empty %v: it is right and not empty", r, geom.Right(r), geom.Empty(r))
		}
	}
}

func TestArea(t *testing.T) {
	for _, r := range append(wrong(), hollow()...) {
		if got := geom.Area(r); got != 0 {
			t.Errorf("Area(%v) = %d of an empty one", r, got)
		}
	}
	for _, c := range []struct {
		r    api.Rect
		want int
	}{
		{rect(0, 0, 1, 1), 1}, {rect(0, 0, 3, 4), 12}, {rect(-9, 7, 4, 3), 12}, {rect(high, 0, 1, 9), 9}, {rect(low, 0, all, 1), all}, {plane, 1 << 32},
		{rect(0, 0, -3, -4), 0}, {rect(0, 0, -1, 0), 0}, {rect(high, high, 2, 2), 0},
	} {
		if got := geom.Area(c.r); got != c.want {
			t.Errorf("Area(%v) = %d, not %d", c.r, got, c.want)
		}
	}
}

// within tells of a right rectangle, by counting, whether a place is one of its.
func within(r api.Rect, p api.Point) bool {
	x, y := false, false
	for i := range r.W {
		x = x || r.X+i == p.X
	}
	for i := range r.H {
		y = y || r.Y+i == p.Y
	}
	return x && y
}

func TestHas(t *testing.T) {
	for _, c := range []struct {
		r    api.Rect
		p    api.Point
		want bool
	}{
		{rect(1, 2, 3, 4), place(1, 2), true}, {rect(1, 2, 3, 4), place(3, 5), true}, {rect(1, 2, 3, 4), place(2, 3), true},
		{rect(1, 2, 3, 4), place(0, 2), false}, {rect(1, 2, 3, 4), place(1, 1), false}, {rect(1, 2, 3, 4), place(4, 5), false}, {rect(1, 2, 3, 4), place(3, 6), false},
		{plane, place(low, low), true}, {plane, place(high, high), true}, {plane, place(high+1, 0), false}, {plane, place(0, high+1), false},
		{plane, place(low-1, 0), false}, {plane, place(0, low-1), false}, {plane, place(math.MaxInt, math.MaxInt), false}, {plane, place(math.MinInt, math.MinInt), false},
		{rect(high, high, 1, 1), place(high, high), true}, {rect(high, high, 2, 2), place(high, high), false}, {rect(low-1, 0, 9, 9), place(0, 0), false},
		{rect(0, 0, 0, 9), place(0, 0), false}, {rect(0, 0, 9, 0), place(0, 0), false}, {rect(0, 0, math.MaxInt, math.MaxInt), place(1, 1), false},
	} {
		if got := geom.Has(c.r, c.p); got != c.want {
			t.Errorf("Has(%v, %v) = %v", c.r, c.p, got)
		}
	}
	for _, r := range wrong() {
		for _, p := range []api.Point{place(r.X, r.Y), place(0, 0), place(high, high), place(low, low)} {
			if geom.Has(r, p) {
				t.Errorf("Has(%v, %v): what is not right has no place", r, p)
			}
		}
	}
	r := rect(-1, 1, 3, 2)
	for x := -4; x < 5; x++ {
		for y := -4; y < 5; y++ {
			if p := place(x, y); geom.Has(r, p) != within(r, p) {
				t.Errorf("Has(%v, %v) = %v", r, p, geom.Has(r, p))
			}
		}
	}
}

func TestBetween(t *testing.T) {
	for _, c := range []struct {
		from, to api.Point
		want     api.Rect
	}{
		{place(1, 2), place(4, 9), rect(1, 2, 3, 7)}, {place(-3, -2), place(-2, -1), rect(-3, -2, 1, 1)}, {place(low, low), place(high+1, high+1), plane},
		{place(high, high), place(high+1, high+1), rect(high, high, 1, 1)}, {place(low, 0), place(low+1, 1), rect(low, 0, 1, 1)},
		{place(1, 2), place(1, 9), rect(0, 0, 0, 0)}, {place(1, 2), place(4, 2), rect(0, 0, 0, 0)}, {place(1, 2), place(0, 9), rect(0, 0, 0, 0)},
		{place(1, 2), place(4, 1), rect(0, 0, 0, 0)}, {place(4, 9), place(1, 2), rect(0, 0, 0, 0)}, {place(3, 3), place(3, 3), rect(0, 0, 0, 0)},
		{place(low-1, 0), place(1, 1), rect(0, 0, 0, 0)}, {place(0, low-1), place(1, 1), rect(0, 0, 0, 0)},
		{place(0, 0), place(high+2, 1), rect(0, 0, 0, 0)}, {place(0, 0), place(1, high+2), rect(0, 0, 0, 0)}, {place(high+1, 0), place(high+2, 1), rect(0, 0, 0, 0)},
	} {
		if got := geom.Between(c.from, c.to); got != c.want {
			t.Errorf("Between(%v, %v) = %v, not %v", c.from, c.to, got, c.want)
		}
	}
}

// TestBetweenFar: differences of far numbers go round to small ones.
func TestBetweenFar(t *testing.T) {
	for _, from := range numbers() {
		for _, to := range numbers() {
			want := from >= low && from < to && to <= high+1
			wide, high := geom.Between(place(from, 0), place(to, 1)), geom.Between(place(0, from), place(1, to))
			if want && (wide != rect(from, 0, to-from, 1) || high != rect(0, from, 1, to-from)) {
				t.Errorf("Between from %d to %d = %v, %v", from, to, wide, high)
			}
			if !want && (wide != api.Rect{} || high != api.Rect{}) {
				t.Errorf("Between from %d to %d = %v, %v, not zero ones", from, to, wide, high)
			}
		}
	}
}

func TestInter(t *testing.T) {
	for _, c := range [][3]api.Rect{
		{rect(0, 0, 4, 4), rect(2, 2, 4, 4), rect(2, 2, 2, 2)}, {rect(0, 0, 9, 9), rect(3, 4, 2, 1), rect(3, 4, 2, 1)}, {rect(0, 3, 9, 2), rect(4, 0, 3, 9), rect(4, 3, 3, 2)},
		{rect(0, 0, 4, 4), rect(4, 0, 4, 4), {}}, {rect(0, 0, 4, 4), rect(0, 4, 4, 4), {}}, {rect(0, 0, 4, 4), rect(4, 4, 4, 4), {}}, {rect(0, 0, 4, 4), rect(9, 9, 4, 4), {}},
		{rect(0, 0, 4, 4), rect(1, 9, 2, 2), {}}, {rect(0, 0, 4, 4), rect(3, 3, 4, 4), rect(3, 3, 1, 1)},
		{plane, rect(high, high, 1, 1), rect(high, high, 1, 1)}, {plane, plane, plane}, {rect(low, low, 4, 4), rect(low, low, 1, 9), rect(low, low, 1, 4)},
	} {
		if got := geom.Inter(c[0], c[1]); got != c[2] {
			t.Errorf("Inter(%v, %v) = %v, not %v", c[0], c[1], got, c[2])
		}
		if got := geom.Inter(c[1], c[0]); got != c[2] {
			t.Errorf("Inter(%v, %v) = %v, not %v", c[1], c[0], got, c[2])
		}
	}
	for _, none := range append(wrong(), hollow()...) {
		for _, r := range every() {
			if geom.Inter(none, r) != (api.Rect{}) || geom.Inter(r, none) != (api.Rect{}) {
				t.Errorf("Inter of %v and %v is not the zero one", none, r)
			}
		}
	}
}

func TestHull(t *testing.T) {
	for _, c := range [][3]api.Rect{
		{rect(0, 0, 1, 1), rect(5, 5, 1, 1), rect(0, 0, 6, 6)}, {rect(5, 0, 1, 1), rect(0, 5, 2, 2), rect(0, 0, 6, 7)}, {rect(0, 0, 9, 9), rect(3, 3, 2, 2), rect(0, 0, 9, 9)},
		{rect(-5, 2, 3, 3), rect(1, -1, 1, 2), rect(-5, -1, 7, 6)}, {rect(low, low, 1, 1), rect(high, high, 1, 1), plane}, {rect(low, high, 1, 1), rect(high, low, 1, 1), plane},
	} {
		if got := geom.Hull(c[0], c[1]); got != c[2] {
			t.Errorf("Hull(%v, %v) = %v, not %v", c[0], c[1], got, c[2])
		}
	}
	for _, none := range append(wrong(), hollow()...) {
		for _, r := range solid() {
			if geom.Hull(none, r) != r || geom.Hull(r, none) != r {
				t.Errorf("Hull of %v, which is empty, and %v = %v, %v", none, r, geom.Hull(none, r), geom.Hull(r, none))
			}
		}
		for _, other := range append(wrong(), hollow()...) {
			if got := geom.Hull(none, other); got != (api.Rect{}) {
				t.Errorf("Hull(%v, %v) = %v of two empty ones", none, other, got)
			}
		}
	}
}

// TestHullIsLeast: a place fewer at any side, and a place of one of the two would be left out.
func TestHullIsLeast(t *testing.T) {
	for _, a := range solid() {
		for _, b := range solid() {
			h := geom.Hull(a, b)
			if !geom.Inside(a, h) || !geom.Inside(b, h) {
				t.Errorf("Hull(%v, %v) = %v leaves places out", a, b, h)
			}
			for _, e := range []geom.Edges{{Left: 1}, {Top: 1}, {Right: 1}, {Bottom: 1}} {
				if less := geom.Inset(h, e); geom.Inside(a, less) && geom.Inside(b, less) {
					t.Errorf("Hull(%v, %v) = %v: %v would do", a, b, h, less)
				}
			}
		}
	}
}

func TestInside(t *testing.T) {
	in := rect(0, 0, 9, 9)
	for _, a := range []api.Rect{in, rect(3, 3, 2, 2), rect(0, 0, 1, 1), rect(8, 8, 1, 1), rect(0, 4, 9, 1)} {
		if !geom.Inside(a, in) {
			t.Errorf("%v is inside %v", a, in)
		}
	}
	for _, a := range []api.Rect{rect(-1, 0, 9, 9), rect(0, -1, 9, 9), rect(1, 0, 9, 9), rect(0, 1, 9, 9), rect(0, 0, 10, 9), rect(0, 0, 9, 10), rect(-1, 3, 1, 1), rect(9, 3, 1, 1), rect(3, 9, 1, 1), plane} {
		if geom.Inside(a, in) {
			t.Errorf("%v is not inside %v", a, in)
		}
	}
	for _, none := range append(wrong(), hollow()...) {
		for _, r := range every() {
			if !geom.Inside(none, r) {
				t.Errorf("%v, which has no place, is inside %v", none, r)
			}
		}
		for _, r := range solid() {
			if geom.Inside(r, none) {
				t.Errorf("%v is inside %v, which is empty", r, none)
			}
		}
	}
	for _, r := range solid() {
		if !geom.Inside(r, r) || !geom.Inside(r, plane) || geom.Inside(plane, r) != (r == plane) {
			t.Errorf("%v, itself, and the plane", r)
		}
	}
}

func TestShift(t *testing.T) {
	for _, c := range []struct {
		r      api.Rect
		dx, dy int
		want   api.Rect
	}{
		{rect(0, 0, 4, 4), 0, 0, rect(0, 0, 4, 4)}, {rect(1, 2, 4, 5), 3, -7, rect(4, -5, 4, 5)},
		{rect(0, 0, 4, 4), 40000, -1, rect(high-3, -1, 4, 4)}, {rect(0, 0, 4, 4), -40000, 1, rect(low, 1, 4, 4)},
		{rect(0, 0, 4, 4), -1, 40000, rect(-1, high-3, 4, 4)}, {rect(0, 0, 4, 4), 1, -40000, rect(1, low, 4, 4)},
		{rect(0, 0, 4, 4), high - 3, high - 3, rect(high-3, high-3, 4, 4)}, {rect(0, 0, 4, 4), high - 2, high - 2, rect(high-3, high-3, 4, 4)},
		{rect(0, 0, 4, 4), high - 4, high - 4, rect(high-4, high-4, 4, 4)}, {rect(0, 0, 4, 4), low, low, rect(low, low, 4, 4)}, {rect(0, 0, 4, 4), low - 1, low - 1, rect(low, low, 4, 4)},
		{rect(0, 0, 0, 0), 40000, 40000, rect(high, high, 0, 0)}, {rect(0, 0, 0, 3), high + 1, high + 1, rect(high, high-2, 0, 3)}, {rect(0, 0, 3, 0), high + 1, high + 1, rect(high-2, high, 3, 0)},
		{rect(0, 0, 1, 1), 40000, 40000, rect(high, high, 1, 1)}, {rect(high, high, 1, 0), 1, 1, rect(high, high, 1, 0)},
		{rect(low, 5, all, 1), 3, 3, rect(low, 8, all, 1)}, {plane, 1, 1, plane}, {plane, -1, -1, plane},
	} {
		if got := geom.Shift(c.r, c.dx, c.dy); got != c.want {
			t.Errorf("Shift(%v, %d, %d) = %v, not %v", c.r, c.dx, c.dy, got, c.want)
		}
	}
}

// TestShiftFar: of every right rectangle, and by all kinds of numbers, each way goes as far as the plane does.
func TestShiftFar(t *testing.T) {
	for _, r := range right() {
		for _, d := range numbers() {
			for _, by := range numbers() {
				got := geom.Shift(r, d, by)
				if want := rect(slid(r.X, r.W, d), slid(r.Y, r.H, by), r.W, r.H); got != want {
					t.Errorf("Shift(%v, %d, %d) = %v, not %v", r, d, by, got, want)
				}
			}
		}
	}
	for _, r := range wrong() {
		for _, d := range numbers() {
			if got := geom.Shift(r, d, d); got != (api.Rect{}) {
				t.Errorf("Shift(%v, %d, %d) = %v of what is not right", r, d, d, got)
			}
		}
	}
}

// slid tells where a run of places comes to begin; floats of this size may be off by a few, but that far out it plays no part.
func slid(start, length, by int) int {
	end := float64(high + 1 - length)
	if length == 0 {
		end = high
	}
	return int(math.Max(low, math.Min(end, float64(start)+float64(by))))
}

func TestInset(t *testing.T) {
	for _, c := range []struct {
		r    api.Rect
		e    geom.Edges
		want api.Rect
	}{
		{rect(0, 0, 9, 9), edges(1, 2, 3, 4), rect(1, 2, 5, 3)}, {rect(-5, 7, 9, 9), edges(0, 0, 0, 0), rect(-5, 7, 9, 9)},
		{rect(0, 0, 4, 4), edges(1, 0, 9, 0), rect(1, 0, 0, 4)}, {rect(0, 0, 4, 4), edges(0, 1, 0, 9), rect(0, 1, 4, 0)},
		{rect(0, 0, 4, 4), edges(9, 0, 1, 0), rect(4, 0, 0, 4)}, {rect(0, 0, 4, 4), edges(0, 9, 0, 1), rect(0, 4, 4, 0)},
		{rect(0, 0, 4, 4), edges(4, 0, 0, 0), rect(4, 0, 0, 4)}, {rect(0, 0, 4, 4), edges(3, 3, 1, 1), rect(3, 3, 0, 0)}, {rect(0, 0, 4, 4), edges(3, 3, 0, 0), rect(3, 3, 1, 1)},
		{rect(0, 0, 4, 4), edges(-1, -1, -1, -1), rect(0, 0, 4, 4)}, {rect(0, 0, 4, 4), edges(-1, 2, 1, -2), rect(0, 2, 3, 2)}, {rect(0, 0, 4, 4), edges(1, -2, -1, 2), rect(1, 0, 3, 2)},
		{rect(high-3, high-3, 4, 4), edges(9, 9, 0, 0), rect(high, high, 0, 0)}, {rect(high-3, high-3, 4, 4), edges(4, 0, 0, 4), rect(high, high-3, 0, 0)},
		{rect(high, high, 1, 1), edges(1, 1, 0, 0), rect(high, high, 0, 0)}, {rect(high, high, 0, 0), edges(1, 1, 1, 1), rect(high, high, 0, 0)},
		{rect(3, 4, 0, 5), edges(2, 2, 2, 2), rect(3, 6, 0, 1)}, {plane, edges(all, 0, 0, all), rect(high, low, 0, 0)}, {plane, edges(1, 1, 1, 1), rect(low+1, low+1, all-2, all-2)},
		{rect(0, 0, 4, 4), edges(math.MaxInt, math.MaxInt, math.MaxInt, math.MaxInt), rect(4, 4, 0, 0)},
		{rect(0, 0, 4, 4), edges(1, 1, math.MaxInt, math.MaxInt), rect(1, 1, 0, 0)}, {rect(0, 0, 4, 4), edges(math.MinInt, math.MinInt, math.MinInt, math.MinInt), rect(0, 0, 4, 4)},
		{rect(0, 0, 4, 4), edges(math.MinInt, math.MaxInt, math.MaxInt, math.MinInt), rect(0, 4, 0, 0)},
	} {
		if got := geom.Inset(c.r, c.e); got != c.want {
			t.Errorf("Inset(%v, %v) = %v, not %v", c.r, c.e, got, c.want)
		}
	}
	for _, r := range wrong() {
		for _, d := range numbers() {
			if got := geom.Inset(r, edges(d, d, d, d)); got != (api.Rect{}) {
				t.Errorf("Inset(%v, all %d) = %v of what is not right", r, d, got)
			}
		}
	}
}

// TestInsetStays: what is told is right, and has places of the rectangle alone.
func TestInsetStays(t *testing.T) {
	for _, r := range right() {
		for _, d := range numbers() {
			for _, e := range []geom.Edges{edges(d, 0, 0, 0), edges(0, d, 0, 0), edges(0, 0, d, 0), edges(0, 0, 0, d), edges(d, d, d, d)} {
				if got := geom.Inset(r, e); !geom.Right(got) || !geom.Inside(got, r) {
					t.Errorf("Inset(%v, %v) = %v", r, e, got)
				}
			}
		}
	}
}

func TestKeep(t *testing.T) {
	in := rect(0, 0, 10, 10)
	for _, c := range [][3]api.Rect{
		{rect(9, 9, 4, 4), in, rect(6, 6, 4, 4)}, {rect(-5, 20, 4, 4), in, rect(0, 6, 4, 4)}, {rect(20, -5, 4, 4), in, rect(6, 0, 4, 4)},
		{rect(3, 4, 4, 4), in, rect(3, 4, 4, 4)}, {rect(0, 0, 4, 4), in, rect(0, 0, 4, 4)}, {rect(6, 6, 4, 4), in, rect(6, 6, 4, 4)}, {rect(7, 7, 4, 4), in, rect(6, 6, 4, 4)}, {rect(-1, -1, 4, 4), in, rect(0, 0, 4, 4)},
		{rect(5, 5, 14, 4), in, rect(0, 5, 14, 4)}, {rect(5, 5, 4, 14), in, rect(5, 0, 4, 14)}, {rect(-3, -3, 11, 11), in, rect(0, 0, 11, 11)}, {rect(5, -5, 10, 10), in, in}, {rect(-99, 99, 50, 50), in, rect(0, 0, 50, 50)},
		{rect(0, 0, 4, 4), rect(-20, 30, 6, 6), rect(-18, 30, 4, 4)}, {rect(0, 0, 4, 4), rect(30, -20, 6, 6), rect(30, -18, 4, 4)},
		{rect(0, 0, 4, 4), rect(high, high, 1, 1), rect(high-3, high-3, 4, 4)}, {rect(0, 0, 4, 4), rect(high-1, 0, 2, 9), rect(high-3, 0, 4, 4)}, {rect(0, 0, 4, 4), rect(low, low, 1, 1), rect(low, low, 4, 4)},
		{rect(0, 0, 4, 4), rect(high, high, 0, 0), rect(high-3, high-3, 4, 4)}, {rect(0, 0, 4, 4), rect(7, 8, 0, 0), rect(7, 8, 4, 4)}, {rect(3, 3, 0, 0), in, rect(3, 3, 0, 0)},
		{rect(high, high, 0, 0), plane, rect(high, high, 0, 0)}, {plane, in, plane}, {in, plane, in}, {plane, plane, plane},
		{rect(high, high, 1, 1), rect(low, low, 1, 1), rect(low, low, 1, 1)}, {rect(low, low, 1, 1), rect(high, high, 1, 1), rect(high, high, 1, 1)},
	} {
		if got := geom.Keep(c[0], c[1]); got != c[2] {
			t.Errorf("Keep(%v, %v) = %v, not %v", c[0], c[1], got, c[2])
		}
	}
	for _, bad := range wrong() {
		for _, r := range every() {
			if geom.Keep(bad, r) != (api.Rect{}) || geom.Keep(r, bad) != (api.Rect{}) {
				t.Errorf("Keep of %v and %v is not the zero one", bad, r)
			}
		}
	}
}
