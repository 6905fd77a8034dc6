package region_test

import (
	"math"
	"slices"
	"testing"

	"casement/api"
	"casement/region"
)

const (
	low  = api.Low
	high = api.High
	all  = high + 1 - low // how many places the plane has, one way
	most = api.MaxRects
)

// plane is the greatest rectangle that there is.
var plane = rect(low, low, all, all)

func rect(x, y, w, h int) api.Rect { return api.Rect{X: x, Y: y, W: w, H: h} }

func place(x, y int) api.Point { return api.Point{X: x, Y: y} }

func list(l ...api.Rect) []api.Rect { return l }

// wrong rectangles: off the plane, of lengths below 0, of numbers whose sums go round.
func wrong() []api.Rect {
	var l []api.Rect
	for _, run := range [][2]int{
		{low - 1, 1}, {low - 1, 0}, {high + 1, 0}, {high, 2}, {low, all + 1}, {0, -1}, {10, -10}, {0, math.MinInt}, {0, math.MaxInt},
		{math.MinInt, 1}, {math.MinInt, math.MaxInt}, {math.MaxInt, 0}, {math.MaxInt, math.MaxInt}, {math.MinInt, math.MinInt},
	} {
		l = append(l, rect(run[0], 0, run[1], 4), rect(0, run[0], 4, run[1]), rect(run[0], run[0], run[1], run[1]))
	}
	return l
}

// hollow rectangles are right, but have no place.
func hollow() []api.Rect {
	return list(api.Rect{}, rect(0, 0, 0, 5), rect(0, 0, 5, 0), rect(2, 1, 0, 9), rect(1, 2, 9, 0), rect(high, high, 0, 0), rect(low, low, 0, 0), rect(low, 0, all, 0), rect(0, low, 0, all))
}

// fields of a board, one place each: n in a row, rows of them, with gaps between.
func fields(n, rows, step int) []api.Rect {
	var l []api.Rect
	for y := range rows {
		for x := range n {
			l = append(l, rect(x*step, y*step, 1, 1))
		}
	}
	return l
}

// bars: n of them that stand, or lie, with gaps between, each as long as all of them are wide.
func standing(n int) []api.Rect {
	var l []api.Rect
	for i := range n {
		l = append(l, rect(2*i, 0, 1, 2*n))
	}
	return l
}

func lying(n int) []api.Rect {
	var l []api.Rect
	for i := range n {
		l = append(l, rect(0, 2*i, 2*n, 1))
	}
	return l
}

// moved bars are what lies between the others.
func moved(l []api.Rect, dx, dy int) []api.Rect {
	for i := range l {
		l[i].X, l[i].Y = l[i].X+dx, l[i].Y+dy
	}
	return l
}

// chess is the fields of one colour of a board of 32 and 16: 256 of them, none of which touch but at corners.
func chess(colour int) []api.Rect {
	var l []api.Rect
	for y := range 16 {
		for x := range 16 {
			l = append(l, rect(2*x+(y+colour)%2, y, 1, 1))
		}
	}
	return l
}

type maker func(a, b []api.Rect) ([]api.Rect, api.Errno)

func makers() map[string]maker {
	return map[string]maker{"Union": region.Union, "Inter": region.Inter, "Sub": region.Sub}
}

// expect tells whether a call answered that list.
func expect(t *testing.T, name string, call maker, a, b, want []api.Rect) {
	t.Helper()
	got, e := call(a, b)
	if e != api.OK || !slices.Equal(got, want) {
		t.Errorf("%s(%v, %v) = %v, %d, not %v", name, a, b, got, e, want)
	}
}

// refused tells whether a call answered that error, and nothing beside it.
func refused(t *testing.T, name string, call maker, a, b []api.Rect, want api.Errno) {
	t.Helper()
	if got, e := call(a, b); e != want || len(got) != 0 {
		t.Errorf("%s of %d and %d rectangles = %d of them, %d, not %d", name, len(a), len(b), len(got), e, want)
	}
}

func TestUnion(t *testing.T) {
	for _, c := range []struct{ a, b, want []api.Rect }{
		{nil, nil, nil}, {list(), nil, nil}, {list(rect(0, 0, 2, 2)), nil, list(rect(0, 0, 2, 2))}, {nil, list(rect(0, 0, 2, 2)), list(rect(0, 0, 2, 2))},
		{list(rect(0, 0, 2, 2), rect(2, 0, 2, 2)), nil, list(rect(0, 0, 4, 2))}, {list(rect(0, 0, 2, 2)), list(rect(2, 0, 2, 2)), list(rect(0, 0, 4, 2))},
		{list(rect(0, 2, 2, 2)), list(rect(0, 0, 2, 2)), list(rect(0, 0, 2, 4))},                                     // one below the other
		{list(rect(0, 0, 2, 2)), list(rect(3, 0, 2, 2)), list(rect(0, 0, 2, 2), rect(3, 0, 2, 2))},                   // a gap between
		{list(rect(0, 0, 2, 2)), list(rect(0, 3, 2, 2)), list(rect(0, 0, 2, 2), rect(0, 3, 2, 2))},                   // rows between that have no places
		{list(rect(0, 0, 2, 2)), list(rect(2, 2, 2, 2)), list(rect(0, 0, 2, 2), rect(2, 2, 2, 2))},                   // they touch at a corner
		{list(rect(2, 0, 2, 2)), list(rect(0, 2, 2, 2)), list(rect(2, 0, 2, 2), rect(0, 2, 2, 2))},                   // at the other one
		{list(rect(0, 0, 3, 3)), list(rect(1, 1, 3, 3)), list(rect(0, 0, 3, 1), rect(0, 1, 4, 2), rect(1, 3, 3, 1))}, // they overlap
		{list(rect(0, 0, 9, 9)), list(rect(3, 3, 2, 2)), list(rect(0, 0, 9, 9))},                                     // one holds the other
		{list(rect(3, 3, 2, 2)), list(rect(0, 0, 9, 9)), list(rect(0, 0, 9, 9))},                                     // and is the second one
		{list(rect(0, 0, 9, 9)), list(rect(0, 0, 9, 9)), list(rect(0, 0, 9, 9))},                                     // they are the same
		{list(rect(0, 0, 9, 1), rect(0, 2, 9, 1)), list(rect(0, 1, 9, 1)), list(rect(0, 0, 9, 3))},                   // what is between fills them up
		{list(rect(0, 0, 2, 9)), list(rect(2, 3, 2, 9)), list(rect(0, 0, 2, 3), rect(0, 3, 4, 6), rect(2, 9, 2, 3))}, // they touch in part
		{list(rect(0, 0, 3, 1), rect(0, 2, 3, 1)), list(rect(1, 0, 1, 3)), list(rect(0, 0, 3, 1), rect(1, 1, 1, 1), rect(0, 2, 3, 1))},
		{list(rect(5, 0, 1, 4), rect(0, 0, 1, 4)), list(rect(3, 0, 1, 4)), list(rect(0, 0, 1, 4), rect(3, 0, 1, 4), rect(5, 0, 1, 4))},
		{list(rect(0, 0, 1, 2), rect(5, 0, 1, 4)), list(rect(0, 2, 1, 2)), list(rect(0, 0, 1, 4), rect(5, 0, 1, 4))},                                     // both runs go on
		{list(rect(0, 0, 1, 2), rect(5, 0, 1, 4)), list(rect(0, 2, 2, 2)), list(rect(0, 0, 1, 2), rect(5, 0, 1, 2), rect(0, 2, 2, 2), rect(5, 2, 1, 2))}, // but one goes on
		{hollow(), nil, nil}, {hollow(), hollow(), nil}, {list(rect(0, 0, 4, 4)), hollow(), list(rect(0, 0, 4, 4))}, {hollow(), list(rect(0, 0, 4, 4)), list(rect(0, 0, 4, 4))},
	} {
		expect(t, "Union", region.Union, c.a, c.b, c.want)
	}
}

func TestInter(t *testing.T) {
	for _, c := range []struct{ a, b, want []api.Rect }{
		{nil, nil, nil}, {list(rect(0, 0, 2, 2)), nil, nil}, {nil, list(rect(0, 0, 2, 2)), nil}, {list(rect(0, 0, 2, 2)), list(rect(0, 0, 2, 2)), list(rect(0, 0, 2, 2))},
		{list(rect(0, 0, 4, 4)), list(rect(2, 2, 4, 4)), list(rect(2, 2, 2, 2))}, {list(rect(0, 0, 9, 9)), list(rect(3, 3, 2, 2)), list(rect(3, 3, 2, 2))}, {list(rect(3, 3, 2, 2)), list(rect(0, 0, 9, 9)), list(rect(3, 3, 2, 2))},
		{list(rect(0, 0, 2, 2)), list(rect(2, 0, 2, 2)), nil}, {list(rect(0, 0, 2, 2)), list(rect(0, 2, 2, 2)), nil}, {list(rect(0, 0, 2, 2)), list(rect(2, 2, 2, 2)), nil}, // they touch alone
		{list(rect(0, 0, 2, 2), rect(1, 0, 2, 2)), nil, nil}, // what is in two of one set is not in both sets
		{nil, list(rect(0, 0, 2, 2), rect(1, 0, 2, 2)), nil},
		{list(rect(0, 0, 2, 2), rect(2, 0, 2, 2)), list(rect(1, 0, 2, 2)), list(rect(1, 0, 2, 2))},
		{list(rect(0, 0, 2, 2), rect(0, 2, 2, 2)), list(rect(0, 1, 2, 2)), list(rect(0, 1, 2, 2))},
		{list(rect(0, 0, 9, 9)), list(rect(6, 1, 9, 1), rect(1, 1, 2, 1), rect(1, 4, 2, 1)), list(rect(1, 1, 2, 1), rect(6, 1, 3, 1), rect(1, 4, 2, 1))},
		{list(rect(0, 0, 4, 4)), hollow(), nil}, {hollow(), list(rect(0, 0, 4, 4)), nil}, {hollow(), hollow(), nil},
		{append(hollow(), rect(0, 0, 4, 4)), append(hollow(), rect(0, 0, 4, 4)), list(rect(0, 0, 4, 4))},
	} {
		expect(t, "Inter", region.Inter, c.a, c.b, c.want)
	}
}

func TestSub(t *testing.T) {
	for _, c := range []struct{ a, b, want []api.Rect }{
		{nil, nil, nil}, {list(rect(0, 0, 2, 2)), nil, list(rect(0, 0, 2, 2))}, {nil, list(rect(0, 0, 2, 2)), nil}, {list(rect(0, 0, 2, 2)), list(rect(0, 0, 2, 2)), nil},
		{list(rect(0, 0, 3, 3)), list(rect(1, 1, 1, 1)), list(rect(0, 0, 3, 1), rect(0, 1, 1, 1), rect(2, 1, 1, 1), rect(0, 2, 3, 1))},
		{list(rect(0, 0, 3, 1)), list(rect(1, 0, 1, 1)), list(rect(0, 0, 1, 1), rect(2, 0, 1, 1))}, {list(rect(0, 0, 1, 3)), list(rect(0, 1, 1, 1)), list(rect(0, 0, 1, 1), rect(0, 2, 1, 1))},
		{list(rect(0, 0, 4, 4)), list(rect(2, 2, 4, 4)), list(rect(0, 0, 4, 2), rect(0, 2, 2, 2))}, {list(rect(3, 3, 2, 2)), list(rect(0, 0, 9, 9)), nil},
		{list(rect(0, 0, 2, 2)), list(rect(2, 0, 2, 2)), list(rect(0, 0, 2, 2))}, {list(rect(0, 0, 2, 2)), list(rect(0, 2, 2, 2)), list(rect(0, 0, 2, 2))}, // they touch alone
		{list(rect(0, 0, 4, 4), rect(0, 0, 4, 4), rect(1, 1, 9, 3)), list(rect(0, 0, 4, 4)), list(rect(4, 1, 6, 3))}, // what is there twice is taken off once for all
		{list(rect(0, 0, 4, 4)), list(rect(0, 0, 2, 4), rect(0, 0, 2, 4), rect(1, 0, 1, 4)), list(rect(2, 0, 2, 4))},
		{list(rect(0, 0, 4, 4)), hollow(), list(rect(0, 0, 4, 4))}, {hollow(), list(rect(0, 0, 4, 4)), nil}, {hollow(), hollow(), nil},
	} {
		expect(t, "Sub", region.Sub, c.a, c.b, c.want)
	}
}

// TestPlaneEdges: nothing is lost, and nothing goes round, where the plane ends.
func TestPlaneEdges(t *testing.T) {
	corners := list(rect(high, high, 1, 1), rect(low, high, 1, 1), rect(high, low, 1, 1), rect(low, low, 1, 1))
	sorted := list(rect(low, low, 1, 1), rect(high, low, 1, 1), rect(low, high, 1, 1), rect(high, high, 1, 1))
	inner := list(rect(low+1, low, all-2, 1), rect(low, low+1, all, all-2), rect(low+1, high, all-2, 1))
	middle := rect(low+1, low+1, all-2, all-2)
	ring := list(rect(low, low, all, 1), rect(low, low+1, 1, all-2), rect(high, low+1, 1, all-2), rect(low, high, all, 1))
	expect(t, "Union", region.Union, corners, nil, sorted)
	expect(t, "Union", region.Union, corners, inner, list(plane))
	expect(t, "Union", region.Union, list(plane), corners, list(plane))
	expect(t, "Inter", region.Inter, corners, list(plane), sorted)
	expect(t, "Inter", region.Inter, list(plane), list(plane), list(plane))
	expect(t, "Sub", region.Sub, list(plane), corners, inner)
	expect(t, "Sub", region.Sub, list(plane), list(plane), nil)
	expect(t, "Sub", region.Sub, list(plane), list(middle), ring)
	expect(t, "Sub", region.Sub, list(plane), ring, list(middle))
	expect(t, "Union", region.Union, list(rect(low, 0, high+1, 5)), list(rect(0, 0, high+1, 5)), list(rect(low, 0, all, 5)))
	expect(t, "Union", region.Union, list(rect(0, low, 5, high+1)), list(rect(0, 0, 5, high+1)), list(rect(0, low, 5, all)))
}

// TestTooMany: just 256 rectangles are taken, in either list, and 257 are not, whatever they are.
func TestTooMany(t *testing.T) {
	full := slices.Repeat(list(rect(3, 4, 5, 6)), most)
	over := append(slices.Clone(full), rect(3, 4, 5, 6))
	one := list(rect(3, 4, 5, 6))
	expect(t, "Union", region.Union, full, full, one)
	expect(t, "Inter", region.Inter, full, full, one)
	expect(t, "Sub", region.Sub, full, full, nil)
	expect(t, "Union", region.Union, slices.Repeat(hollow()[:1], most), nil, nil)
	for name, call := range makers() {
		refused(t, name, call, over, nil, api.ErrLimit)
		refused(t, name, call, nil, over, api.ErrLimit)
		refused(t, name, call, over, full, api.ErrLimit)
		refused(t, name, call, full, over, api.ErrLimit)
		refused(t, name, call, over, over, api.ErrLimit)
		refused(t, name, call, make([]api.Rect, most+1), nil, api.ErrLimit)
		refused(t, name, call, nil, make([]api.Rect, 1<<16), api.ErrLimit)
	}
}

// TestWrong: each of what is not right is refused, in either list and anywhere in it.
func TestWrong(t *testing.T) {
	for name, call := range makers() {
		for _, bad := range wrong() {
			for _, l := range [][]api.Rect{list(bad), list(bad, plane), list(plane, bad), list(rect(0, 0, 1, 1), bad, rect(5, 5, 1, 1)), slices.Repeat(list(bad), most)} {
				refused(t, name, call, l, nil, api.ErrRect)
				refused(t, name, call, nil, l, api.ErrRect)
				refused(t, name, call, l, list(plane), api.ErrRect)
				refused(t, name, call, list(plane), l, api.ErrRect)
				refused(t, name, call, l, l, api.ErrRect)
			}
		}
	}
}

// TestFirstError: too many go ahead of what is not right, and that ahead of an answer of too many.
func TestFirstError(t *testing.T) {
	bad := rect(0, 0, -1, 4)
	over := slices.Repeat(list(bad), most+1)
	grid := append(standing(30), lying(30)...) // as a union too many, as most of its pieces are
	for name, call := range makers() {
		refused(t, name, call, over, nil, api.ErrLimit)
		refused(t, name, call, nil, over, api.ErrLimit)
		refused(t, name, call, list(bad), over, api.ErrLimit)
		refused(t, name, call, over, list(bad), api.ErrLimit)
		refused(t, name, call, list(bad), make([]api.Rect, most+1), api.ErrLimit)
		refused(t, name, call, grid, append(slices.Clone(grid), bad), api.ErrRect)
		refused(t, name, call, append(slices.Clone(grid), bad), grid, api.ErrRect)
		refused(t, name, call, append(slices.Clone(grid), bad), nil, api.ErrRect)
	}
	refused(t, "Union", region.Union, grid, nil, api.ErrLimit)
	refused(t, "Inter", region.Inter, grid, grid, api.ErrLimit)
	refused(t, "Sub", region.Sub, grid, nil, api.ErrLimit)
}

// TestAnswerOf256: an answer has 256 rectangles at most, and just that many are told.
func TestAnswerOf256(t *testing.T) {
	full, next := fields(16, 16, 2), rect(100, 0, 1, 1)
	row := rect(0, 0, 2*most-1, 1)
	var holes []api.Rect
	for i := range most {
		holes = append(holes, rect(2*i+1, 0, 1, 1))
	}
	expect(t, "Union", region.Union, full, nil, full)
	expect(t, "Union", region.Union, nil, full, full)
	expect(t, "Union", region.Union, full, full[7:9], full)
	expect(t, "Union", region.Union, full, list(rect(31, 30, 4, 1)), append(slices.Clone(full[:most-1]), rect(30, 30, 5, 1))) // it lengthens the last one
	refused(t, "Union", region.Union, full, list(next), api.ErrLimit)
	refused(t, "Union", region.Union, full, list(rect(0, -9, 1, 1)), api.ErrLimit) // the row that is one too much is not the last
	refused(t, "Union", region.Union, full, list(rect(0, 99, 1, 1)), api.ErrLimit)
	expect(t, "Inter", region.Inter, standing(16), lying(16), full)
	refused(t, "Inter", region.Inter, append(standing(16), next), append(lying(16), next), api.ErrLimit)
	refused(t, "Inter", region.Inter, standing(17), lying(17), api.ErrLimit)
	refused(t, "Inter", region.Inter, standing(128), lying(128), api.ErrLimit)
	expect(t, "Sub", region.Sub, list(rect(0, 0, 31, 31)), append(moved(standing(16), 1, 0), moved(lying(16), 0, 1)...), full)
	expect(t, "Sub", region.Sub, full, list(rect(-9, -9, 5, 5)), full)
	if got, e := region.Sub(list(row), holes); e != api.OK || len(got) != most || got[most-1] != rect(2*most-2, 0, 1, 1) {
		t.Errorf("a row with 255 holes: %d runs, %d", len(got), e)
	}
	row.W += 2
	refused(t, "Sub", region.Sub, list(row), holes, api.ErrLimit)
}

// TestAnswerAlone: it is the answer's form that may have too many, not that of what it is made of, nor pieces that come together.
func TestAnswerAlone(t *testing.T) {
	grid := append(standing(30), lying(30)...)
	expect(t, "Inter", region.Inter, grid, list(rect(0, 0, 9, 1)), list(rect(0, 0, 9, 1)))
	expect(t, "Inter", region.Inter, list(rect(0, 0, 9, 1)), grid, list(rect(0, 0, 9, 1)))
	expect(t, "Sub", region.Sub, grid, list(plane), nil)
	expect(t, "Sub", region.Sub, nil, grid, nil)
	expect(t, "Sub", region.Sub, grid, list(rect(0, 1, 60, 59)), list(rect(0, 0, 60, 1)))
	expect(t, "Union", region.Union, grid, list(rect(0, 0, 60, 60)), list(rect(0, 0, 60, 60)))
	expect(t, "Union", region.Union, chess(0), chess(1), list(rect(0, 0, 32, 16)))
	expect(t, "Union", region.Union, fields(16, 16, 1), nil, list(rect(0, 0, 16, 16)))
	var rows []api.Rect
	for i := range most {
		rows = append(rows, rect(0, (i*37)%most, 5, 1)) // rows in any order are one
	}
	expect(t, "Union", region.Union, rows, nil, list(rect(0, 0, 5, most)))
}

func TestHas(t *testing.T) {
	l := list(rect(0, 0, 3, 2), rect(2, 1, 3, 3), rect(9, 9, 0, 5), rect(7, 7, -1, 4), rect(0, 8, high+2, 1))
	for y := -2; y < 12; y++ {
		for x := -2; x < 12; x++ {
			want := within(l[0], x, y) || within(l[1], x, y)
			if got := region.Has(l, place(x, y)); got != want {
				t.Errorf("Has(%d %d) = %v", x, y, got)
			}
		}
	}
	for _, p := range []api.Point{place(low, low), place(high, high), place(low, high), place(0, 0)} {
		if !region.Has(list(plane), p) || !region.Has(append(slices.Repeat(hollow(), most), plane), p) || region.Has(nil, p) || region.Has(append(hollow(), wrong()...), p) {
			t.Errorf("Has of the plane, of nothing, of empty ones: %v", p)
		}
	}
	for _, p := range []api.Point{place(low-1, 0), place(0, low-1), place(high+1, 0), place(0, high+1), place(math.MinInt, 0), place(0, math.MaxInt)} {
		if region.Has(append(wrong(), plane), p) {
			t.Errorf("Has(%v): it is not on the plane", p)
		}
	}
}

func TestArea(t *testing.T) {
	for _, c := range []struct {
		l    []api.Rect
		want int
	}{
		{nil, 0}, {list(), 0}, {hollow(), 0}, {list(rect(0, 0, 3, 4)), 12}, {list(rect(0, 0, 3, 4), rect(0, 0, 3, 4)), 12}, {list(rect(0, 0, 3, 4), rect(9, 9, 2, 2)), 16},
		{list(rect(0, 0, 4, 4), rect(2, 2, 4, 4)), 28}, {list(rect(0, 0, 9, 9), rect(3, 3, 2, 2)), 81}, {append(hollow(), rect(-5, -5, 2, 3)), 6},
		{list(plane), all * all}, {list(plane, plane, rect(0, 0, 5, 5)), all * all}, {list(rect(high, high, 1, 1), rect(low, low, 1, 1)), 2},
		{fields(16, 16, 2), most}, {chess(1), most}, {slices.Repeat(list(rect(1, 1, 2, 2)), most), 4},
	} {
		if got, e := region.Area(c.l); got != c.want || e != api.OK {
			t.Errorf("Area(%v) = %d, %d, not %d", c.l, got, e, c.want)
		}
	}
}

// TestAreaRefused: with Union's errors, in Union's order, there are no places.
func TestAreaRefused(t *testing.T) {
	grid := append(standing(30), lying(30)...)
	bad := rect(0, 0, 4, -1)
	for _, c := range []struct {
		l    []api.Rect
		want api.Errno
	}{
		{make([]api.Rect, most+1), api.ErrLimit}, {slices.Repeat(list(rect(0, 0, 1, 1)), most+1), api.ErrLimit}, {slices.Repeat(list(bad), most+1), api.ErrLimit},
		{list(bad), api.ErrRect}, {list(rect(0, 0, 5, 5), bad), api.ErrRect}, {append(slices.Clone(grid), bad), api.ErrRect}, {grid, api.ErrLimit},
	} {
		if got, e := region.Area(c.l); got != 0 || e != c.want {
			t.Errorf("Area of %d rectangles = %d, %d, not %d", len(c.l), got, e, c.want)
		}
	}
	for _, r := range wrong() {
		if got, e := region.Area(list(plane, r)); got != 0 || e != api.ErrRect {
			t.Errorf("Area of %v = %d, %d", r, got, e)
		}
	}
}

func TestBounds(t *testing.T) {
	for _, c := range []struct {
		l    []api.Rect
		want api.Rect
	}{
		{nil, api.Rect{}}, {list(), api.Rect{}}, {list(rect(2, 3, 4, 5)), rect(2, 3, 4, 5)}, {list(rect(2, 3, 4, 5), rect(-1, 9, 1, 1)), rect(-1, 3, 7, 7)},
		{list(rect(5, 5, 1, 1), rect(0, 0, 1, 1), rect(2, 9, 1, 1)), rect(0, 0, 6, 10)}, {list(rect(0, 0, 9, 9), rect(3, 3, 2, 2)), rect(0, 0, 9, 9)},
		{hollow(), api.Rect{}}, {wrong(), api.Rect{}}, {list(rect(3, 3, 0, 5)), api.Rect{}}, {list(rect(3, 3, 1, -1)), api.Rect{}}, {list(rect(9, 9, 0, 0), rect(8, 8, 1, -1)), api.Rect{}},
		{append(hollow(), rect(7, 7, 2, 2)), rect(7, 7, 2, 2)}, {append(wrong(), rect(7, 7, 2, 2)), rect(7, 7, 2, 2)}, {append(list(rect(7, 7, 2, 2)), wrong()...), rect(7, 7, 2, 2)},
		{list(rect(low, low, 1, 1), rect(high, high, 1, 1)), plane}, {list(rect(high, low, 1, 1), rect(low, high, 1, 1)), plane}, {list(plane, rect(0, 0, 1, 1)), plane},
		{slices.Repeat(list(rect(1, 1, 2, 2)), most+1), rect(1, 1, 2, 2)}, {append(standing(30), lying(30)...), rect(0, 0, 60, 60)},
	} {
		if got := region.Bounds(c.l); got != c.want {
			t.Errorf("Bounds(%v) = %v, not %v", c.l, got, c.want)
		}
	}
}

// TestMemory: lists that are handed in stay as they are, with their spare room, and answers share none with them.
func TestMemory(t *testing.T) {
	room := list(rect(4, 0, 2, 2), rect(0, 0, 2, 2), rect(9, 9, 0, 0), rect(2, 0, 1, 2), rect(7, 7, 7, 7), rect(8, 8, 8, 8))
	kept := slices.Clone(room)
	for name, call := range makers() {
		for _, c := range [][2][]api.Rect{{room[:4], room[4:5]}, {room[4:5], room[:4]}, {room[:4], nil}, {nil, room[:4]}, {room[1:2], room[1:2]}, {room[1:2], nil}} {
			first, _ := call(c[0], c[1])
			again, _ := call(c[0], c[1])
			for i := range first {
				first[i] = api.Rect{}
			}
			if after, _ := call(c[0], c[1]); !slices.Equal(again, after) || !slices.Equal(room, kept) {
				t.Fatalf("%s: %v became %v, %v became %v", name, again, after, kept, room)
			}
		}
	}
	region.Area(room[:4])
	region.Bounds(room[:4])
	region.Has(room[:4], place(0, 0))
	if !slices.Equal(room, kept) {
		t.Errorf("%v became %v", kept, room)
	}
}
