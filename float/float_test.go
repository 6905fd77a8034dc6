package float_test

import (
	"math"
	"testing"

	"casement/api"
	"casement/float"
	"casement/size"
)

const (
	low  = api.Low
	high = api.High
	all  = high + 1 - low // how many places the plane has, one way
	top  = size.Top
	grip = float.Grip
)

var (
	none  = api.Hints{}
	plane = rect(low, low, all, all) // the greatest rectangle that there is
)

func rect(x, y, w, h int) api.Rect { return api.Rect{X: x, Y: y, W: w, H: h} }

func style(gap, border, title int) api.Style {
	return api.Style{Gap: gap, Border: border, Title: title}
}

func least(w, t int) api.Hints { return api.Hints{MinW: w, MinH: t} }

// wrong rectangles: off the plane, of lengths below 0, of numbers whose sums go round.
func wrong() []api.Rect {
	var l []api.Rect
	for _, run := range [][2]int{
		{low - 1, 1}, {low - 1, 0}, {low - 1, 50}, {high + 1, 0}, {high + 1, 1}, {high, 2}, {low, all + 1}, {0, high + 2}, {0, -1}, {high, -1}, {10, -10}, {-5, -5},
		{math.MinInt, 0}, {math.MaxInt, 0}, {math.MaxInt, 1}, {math.MaxInt, math.MaxInt}, {math.MaxInt, math.MinInt}, {math.MinInt, math.MinInt}, {0, math.MaxInt}, {0, math.MinInt}, {1, math.MaxInt},
	} {
		l = append(l, rect(run[0], 0, run[1], 9), rect(0, run[0], 9, run[1]), rect(run[0], run[0], run[1], run[1]))
	}
	return l
}

// hollow rectangles are right, but have no place.
func hollow() []api.Rect {
	return []api.Rect{
		{}, rect(0, 0, 0, 5), rect(0, 0, 5, 0), rect(3, 4, 0, 9), rect(3, 4, 9, 0), rect(high, high, 0, 0), rect(low, low, 0, 0), rect(high, 0, 0, 4), rect(0, high, 4, 0), rect(low, low, all, 0), rect(low, low, 0, all),
	}
}

// empty are those that are not right, and those without a place.
func empty() []api.Rect { return append(wrong(), hollow()...) }

// far numbers are outside of all that a length may be; sums of them go round.
func far() []int {
	return []int{top, top + 1, all, 2 * top, 1 << 17, math.MaxInt32, 1 << 32, 1<<32 + 1, math.MaxInt - all, math.MaxInt - 1, math.MaxInt}
}

func TestGrip(t *testing.T) {
	if grip != 16 {
		t.Error(grip)
	}
}

// start is a case of Start.
type start struct {
	owner, work api.Rect
	h           api.Hints
	w, t        int
	want        api.Rect
}

func checkStart(t *testing.T, cases []start) {
	t.Helper()
	for _, c := range cases {
		if got := float.Start(c.owner, c.work, c.h, c.w, c.t); got != c.want {
			t.Errorf("Start(%v, %v, %+v, %d, %d) = %v, not %v", c.owner, c.work, c.h, c.w, c.t, got, c.want)
		}
	}
}

// TestStartInWork: without an owner it is in the middle of work, rounded down each way.
func TestStartInWork(t *testing.T) {
	work, off := rect(0, 0, 100, 100), rect(-50, -30, 21, 11)
	checkStart(t, []start{
		{api.Rect{}, work, none, 30, 20, rect(35, 40, 30, 20)}, // the chapter's example
		{api.Rect{}, work, none, 31, 20, rect(34, 40, 31, 20)}, {api.Rect{}, work, none, 30, 21, rect(35, 39, 30, 21)}, {api.Rect{}, work, none, 99, 98, rect(0, 1, 99, 98)}, {api.Rect{}, work, none, 1, 2, rect(49, 49, 1, 2)},
		{api.Rect{}, work, none, 100, 100, work}, {api.Rect{}, work, none, 101, 99, rect(0, 0, 100, 99)}, {api.Rect{}, work, none, 99, 101, rect(0, 0, 99, 100)}, {api.Rect{}, work, none, 500, 500, work},
		{api.Rect{}, off, none, 4, 4, rect(-42, -27, 4, 4)}, {api.Rect{}, off, none, 5, 3, rect(-42, -26, 5, 3)}, {api.Rect{}, off, none, 20, 10, rect(-50, -30, 20, 10)}, {api.Rect{}, off, none, 21, 11, off}, {api.Rect{}, off, none, 22, 12, off},
		{api.Rect{}, rect(7, 8, 1, 1), none, 5, 5, rect(7, 8, 1, 1)}, {api.Rect{}, rect(7, 8, 40, 1), none, 5, 5, rect(24, 8, 5, 1)}, {api.Rect{}, rect(7, 8, 1, 40), none, 5, 5, rect(7, 25, 1, 5)},
	})
}

// TestStartInOwner: in the middle of it, rounded down also where the client is the greater one.
func TestStartInOwner(t *testing.T) {
	work := rect(0, 0, 100, 100)
	owner := rect(40, 50, 5, 4)
	checkStart(t, []start{
		{rect(10, 20, 40, 30), work, none, 20, 10, rect(20, 30, 20, 10)}, {rect(10, 20, 41, 31), work, none, 20, 10, rect(20, 30, 20, 10)}, {rect(10, 20, 42, 32), work, none, 20, 10, rect(21, 31, 20, 10)},
		{owner, work, none, 5, 4, owner}, {owner, work, none, 6, 5, rect(39, 49, 6, 5)}, {owner, work, none, 7, 6, rect(39, 49, 7, 6)}, {owner, work, none, 8, 7, rect(38, 48, 8, 7)}, {owner, work, none, 10, 11, rect(37, 46, 10, 11)}, {owner, work, none, 4, 3, rect(40, 50, 4, 3)}, {owner, work, none, 3, 2, rect(41, 51, 3, 2)},
		{rect(40, 50, 1, 1), work, none, 60, 60, rect(10, 20, 60, 60)}, {rect(40, 50, 1, 1), work, none, 61, 62, rect(10, 19, 61, 62)}, {work, work, none, 30, 20, rect(35, 40, 30, 20)}, {plane, work, none, 30, 20, rect(0, 0, 30, 20)}, {rect(low+100, low+100, all-100, all-100), work, none, 30, 20, rect(35, 40, 30, 20)},
		{rect(-50, -60, 40, 20), rect(-100, -100, 100, 100), none, 7, 7, rect(-34, -54, 7, 7)}, {rect(-50, -60, 3, 2), rect(-100, -100, 100, 100), none, 8, 9, rect(-53, -64, 8, 9)},
	})
}

// TestStartKept: it is kept in work, to the nearer end, wherever its owner is.
func TestStartKept(t *testing.T) {
	work := rect(10, 20, 100, 80)
	checkStart(t, []start{
		{rect(500, -500, 10, 10), work, none, 20, 15, rect(90, 20, 20, 15)}, {rect(-500, 500, 10, 10), work, none, 20, 15, rect(10, 85, 20, 15)}, {rect(500, 500, 10, 10), work, none, 20, 15, rect(90, 85, 20, 15)}, {rect(-500, -500, 10, 10), work, none, 20, 15, rect(10, 20, 20, 15)},
		{rect(-20, 50, 40, 10), work, none, 20, 10, rect(10, 50, 20, 10)}, {rect(50, 0, 10, 30), work, none, 10, 10, rect(50, 20, 10, 10)}, {rect(0, 10, 40, 40), work, none, 20, 20, rect(10, 20, 20, 20)}, {rect(80, 70, 40, 40), work, none, 20, 20, rect(90, 80, 20, 20)}, {rect(81, 71, 40, 40), work, none, 20, 20, rect(90, 80, 20, 20)}, {rect(79, 69, 40, 40), work, none, 20, 20, rect(89, 79, 20, 20)},
		{rect(50, 50, 1, 1), work, none, 100, 80, work}, {rect(12, 22, 1, 1), work, none, 90, 70, rect(10, 20, 90, 70)}, {rect(105, 95, 1, 1), work, none, 90, 70, rect(20, 30, 90, 70)}, {rect(-20, 0, 40, 40), rect(0, 10, 100, 90), none, 50, 20, rect(0, 10, 50, 20)},
	})
}

// TestStartGreater: hints may have it greater than work: then it begins where work does.
func TestStartGreater(t *testing.T) {
	work := rect(10, 20, 100, 80)
	checkStart(t, []start{
		{api.Rect{}, work, least(120, 0), 500, 500, rect(10, 20, 120, 80)}, {api.Rect{}, work, least(0, 120), 500, 500, rect(10, 20, 100, 120)}, {api.Rect{}, work, least(120, 130), 0, 0, rect(10, 20, 120, 130)}, {api.Rect{}, work, least(101, 81), 5, 5, rect(10, 20, 101, 81)},
		{rect(60, 70, 300, 300), work, least(120, 130), 5, 5, rect(10, 20, 120, 130)}, {rect(-900, -900, 3, 3), work, least(120, 130), 5, 5, rect(10, 20, 120, 130)}, {rect(60, 70, 4, 4), work, least(120, 10), 5, 5, rect(10, 67, 120, 10)}, {rect(60, 70, 4, 4), work, least(10, 130), 5, 5, rect(57, 20, 10, 130)},
		{api.Rect{}, rect(0, 0, 1, 1), least(5, 7), 3, 3, rect(0, 0, 5, 7)}, {api.Rect{}, work, least(top, top), 9, 9, rect(low+1, low+1, top, top)},
	})
}

// TestStartFits: what is asked for is bounded by work ahead of the hints, and these hold as size.Fit has them.
func TestStartFits(t *testing.T) {
	work := rect(0, 0, 100, 60)
	steps := api.Hints{BaseW: 3, IncW: 7, BaseH: 2, IncH: 9}
	square := api.Hints{LowX: 1, LowY: 1, HighX: 1, HighY: 1}
	checkStart(t, []start{
		{api.Rect{}, work, steps, 200, 200, rect(3, 2, 94, 56)}, {api.Rect{}, work, steps, 101, 61, rect(3, 2, 94, 56)}, {api.Rect{}, work, steps, 94, 56, rect(3, 2, 94, 56)}, {api.Rect{}, work, steps, 93, 55, rect(6, 6, 87, 47)}, {api.Rect{}, work, steps, 0, 0, rect(48, 29, 3, 2)},
		{api.Rect{}, work, api.Hints{MaxW: 40, MaxH: 30}, 90, 90, rect(30, 15, 40, 30)}, {api.Rect{}, work, least(50, 40), 3, 3, rect(25, 10, 50, 40)}, {api.Rect{}, work, square, 30, 20, rect(35, 15, 30, 30)}, {api.Rect{}, work, square, 80, 40, rect(10, 0, 80, 80)}, {api.Rect{}, work, square, 500, 500, rect(0, 0, 100, 100)},
		{api.Rect{}, work, api.Hints{MinW: 20, MaxW: 10, IncH: -5, BaseH: -9}, 50, 50, rect(40, 5, 20, 50)}, {rect(10, 10, 20, 20), work, steps, 40, 30, rect(1, 5, 38, 29)},
	})
}

// TestStartOfAnySize: numbers below 0 ask for the least, great ones for all of work.
func TestStartOfAnySize(t *testing.T) {
	work := rect(-10, 20, 100, 60)
	for _, n := range append(far(), 100, 101, 1000) {
		checkStart(t, []start{
			{api.Rect{}, work, none, n, n, work}, {api.Rect{}, work, none, n, 20, rect(-10, 40, 100, 20)}, {api.Rect{}, work, none, 30, n, rect(25, 20, 30, 60)}, {api.Rect{}, work, none, n, -n, rect(-10, 49, 100, 1)}, {api.Rect{}, work, none, -n, n, rect(39, 20, 1, 60)},
			{api.Rect{}, work, none, -n, -n, rect(39, 49, 1, 1)}, {api.Rect{}, work, none, -n - 1, -n - 1, rect(39, 49, 1, 1)}, {api.Rect{}, work, least(8, 9), -n, -n - 1, rect(36, 45, 8, 9)}, {rect(0, 30, 10, 10), work, none, -n, n, rect(4, 20, 1, 60)},
		})
	}
	checkStart(t, []start{{api.Rect{}, work, none, 0, 0, rect(39, 49, 1, 1)}, {api.Rect{}, work, none, -1, 1, rect(39, 49, 1, 1)}})
}

// TestStartWithoutOwner: one without places, or that is not right, is as none.
func TestStartWithoutOwner(t *testing.T) {
	for _, owner := range empty() {
		checkStart(t, []start{
			{owner, rect(500, 600, 100, 80), none, 30, 21, rect(535, 629, 30, 21)}, {owner, rect(-500, -600, 100, 80), none, 200, 9, rect(-500, -565, 100, 9)}, {owner, rect(500, 600, 100, 80), least(120, 1), 9, 9, rect(500, 635, 120, 9)},
		})
	}
}

// TestStartWithoutWork: of one without places, or that is not right, there is one place, 0 0.
func TestStartWithoutWork(t *testing.T) {
	for _, work := range empty() {
		checkStart(t, []start{
			{api.Rect{}, work, none, 30, 20, rect(0, 0, 1, 1)}, {rect(50, 60, 10, 10), work, none, 30, 20, rect(0, 0, 1, 1)}, {rect(-50, -60, 10, 10), work, none, 30, 20, rect(0, 0, 1, 1)}, {api.Rect{}, work, least(10, 7), 30, 20, rect(0, 0, 10, 7)},
			{rect(50, 60, 10, 10), work, least(10, 7), 30, 20, rect(0, 0, 10, 7)}, {rect(-50, -60, 10, 10), work, least(10, 1), 30, 20, rect(0, 0, 10, 1)}, {plane, work, none, all, all, rect(0, 0, 1, 1)}, {work, work, least(3, 4), 0, 0, rect(0, 0, 3, 4)},
		})
	}
}

// TestStartAtEdges: what would be off the plane is moved onto it.
func TestStartAtEdges(t *testing.T) {
	last, first := rect(high, high, 1, 1), rect(low, low, 1, 1)
	checkStart(t, []start{
		{last, plane, none, 100, 90, rect(high-99, high-89, 100, 90)}, {first, plane, none, 100, 90, rect(low, low, 100, 90)}, {last, plane, none, 1, 1, last}, {last, plane, none, 2, 2, rect(high-1, high-1, 2, 2)}, {rect(high-9, low+9, 1, 1), plane, none, 20, 20, rect(high-19, low, 20, 20)},
		{api.Rect{}, rect(high-9, high-9, 10, 10), least(30, 20), 5, 5, rect(high-29, high-19, 30, 20)}, {api.Rect{}, rect(low, low, 10, 10), least(30, 20), 5, 5, rect(low, low, 30, 20)}, {api.Rect{}, last, none, 9, 9, last}, {first, last, none, 9, 9, last}, {last, first, none, 9, 9, first}, {last, first, least(7, 8), 9, 9, rect(low, low, 7, 8)}, {first, last, least(7, 8), 9, 9, rect(high-6, high-7, 7, 8)},
		{api.Rect{}, plane, none, all, all, rect(low, low, top, top)}, {api.Rect{}, plane, none, top, 1000, rect(low, -500, top, 1000)}, {last, plane, none, all, 9, rect(low+1, high-8, top, 9)}, {api.Rect{}, plane, none, 1000, math.MaxInt, rect(-500, low, 1000, top)}, {plane, plane, none, 1, 1, rect(-1, -1, 1, 1)},
	})
}
