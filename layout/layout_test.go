package layout_test

import (
	"math"
	"testing"

	"casement/api"
	"casement/layout"
)

const (
	low  = api.Low
	high = api.High
	all  = high + 1 - low // how many places the plane has, one way
)

// plane is the greatest rectangle that there is.
var plane = rect(low, low, all, all)

func rect(x, y, w, h int) api.Rect { return api.Rect{X: x, Y: y, W: w, H: h} }

func style(gap, border, title int) api.Style {
	return api.Style{Gap: gap, Border: border, Title: title}
}

// wrong rectangles: off the plane, of lengths below 0, of numbers whose sums go round.
func wrong() []api.Rect {
	var l []api.Rect
	for _, run := range [][2]int{
		{low - 1, 1}, {low - 1, 0}, {high + 1, 0}, {high + 1, 1}, {high, 2}, {low, all + 1}, {0, high + 2}, {0, -1}, {high, -1}, {10, -10}, {-5, -5},
		{math.MinInt, 0}, {math.MaxInt, 0}, {math.MaxInt, 1}, {math.MaxInt, math.MaxInt}, {math.MaxInt, math.MinInt}, {math.MinInt, math.MinInt}, {0, math.MaxInt}, {0, math.MinInt}, {1, math.MaxInt},
	} {
		l = append(l, rect(run[0], 0, run[1], 9), rect(0, run[0], 9, run[1]), rect(run[0], run[0], run[1], run[1]))
	}
	return l
}

// hollow rectangles are right, but have no place.
func hollow() []api.Rect {
	return []api.Rect{
		{}, rect(0, 0, 0, 5), rect(0, 0, 5, 0), rect(3, 4, 0, 9), rect(high, high, 0, 0), rect(low, low, 0, 0), rect(high, 0, 0, 4), rect(0, high, 4, 0), rect(low, low, all, 0), rect(low, low, 0, all),
	}
}

// wrongNumbers are none that a style may have.
func wrongNumbers() []int {
	return []int{-1, 101, -100, 102, 200, 256, 300, 1 << 32, -1 << 32, 1<<32 + 50, math.MinInt, math.MaxInt}
}

// wrongStyles have one wrong number, whatever the others are, or two, or three.
func wrongStyles() []api.Style {
	var l []api.Style
	for _, n := range wrongNumbers() {
		l = append(l, style(n, 0, 0), style(0, n, 0), style(0, 0, n), style(n, 100, 7), style(1, n, 100), style(100, 50, n), style(n, n, 0), style(n, 0, n), style(0, n, n), style(n, n, n), style(n, -n, 0), style(0, n, -n))
	}
	return l
}

func TestCheck(t *testing.T) {
	for n := 0; n <= 100; n++ {
		for _, s := range []api.Style{style(n, 0, 0), style(0, n, 0), style(0, 0, n), style(n, n, n), style(n, 100, 0), style(100, 0, n), style(100-n, n, 100)} {
			if e := layout.Check(s); e != api.OK {
				t.Errorf("Check(%v) = %d", s, e)
			}
		}
	}
	for _, s := range wrongStyles() {
		if e := layout.Check(s); e != api.ErrArg {
			t.Errorf("Check(%v) = %d", s, e)
		}
	}
}

// place is a case of Leaf: the frame, the title (of one without a title: its top), and the client in it.
type place struct {
	r                   api.Rect
	s                   api.Style
	titled              bool
	frame, title, inner api.Rect
}

func checkLeaf(t *testing.T, cases []place) {
	t.Helper()
	for i, c := range cases {
		for _, client := range []int{i + 1, 0, -1, math.MinInt, math.MaxInt} {
			want := api.Cell{Client: client, Outer: c.r, Frame: c.frame, Inner: c.inner, Title: c.title, Shown: true}
			if got := layout.Leaf(client, c.r, c.s, c.titled); got != want {
				t.Errorf("Leaf(%d, %v, %v, %v) = %v, not %v", client, c.r, c.s, c.titled, got, want)
			}
		}
	}
}

func TestLeaf(t *testing.T) {
	r, off := rect(0, 0, 100, 80), rect(-30, 20, 50, 40)
	checkLeaf(t, []place{
		{r, style(0, 0, 0), true, r, rect(0, 0, 100, 0), r}, {r, style(0, 0, 0), false, r, rect(0, 0, 100, 0), r},
		{r, style(1, 2, 10), true, rect(1, 1, 98, 78), rect(1, 1, 98, 10), rect(3, 13, 94, 64)}, {r, style(1, 2, 10), false, rect(1, 1, 98, 78), rect(1, 1, 98, 0), rect(3, 3, 94, 74)},
		{r, style(7, 0, 0), true, rect(7, 7, 86, 66), rect(7, 7, 86, 0), rect(7, 7, 86, 66)}, {r, style(0, 7, 0), true, r, rect(0, 0, 100, 0), rect(7, 7, 86, 66)}, {r, style(0, 0, 7), true, r, rect(0, 0, 100, 7), rect(0, 7, 100, 73)}, {r, style(0, 0, 7), false, r, rect(0, 0, 100, 0), r},
		{off, style(3, 4, 5), true, rect(-27, 23, 44, 34), rect(-27, 23, 44, 5), rect(-23, 32, 36, 21)}, {off, style(3, 4, 5), false, rect(-27, 23, 44, 34), rect(-27, 23, 44, 0), rect(-23, 27, 36, 26)},
		{plane, style(1, 1, 1), true, rect(low+1, low+1, all-2, all-2), rect(low+1, low+1, all-2, 1), rect(low+2, low+3, all-4, all-5)}, {plane, style(100, 100, 100), true, rect(low+100, low+100, all-200, all-200), rect(low+100, low+100, all-200, 100), rect(low+200, low+300, all-400, all-500)},
	})
}

// TestLeafTooSmall: what there is no room for is without places, and stands where geom.Inset leaves it.
func TestLeafTooSmall(t *testing.T) {
	r, one := rect(10, 20, 30, 12), rect(4, 5, 1, 1)
	checkLeaf(t, []place{
		{r, style(6, 1, 1), true, rect(16, 26, 18, 0), rect(16, 26, 18, 0), rect(17, 26, 16, 0)}, {r, style(20, 3, 3), true, rect(30, 32, 0, 0), rect(30, 32, 0, 0), rect(30, 32, 0, 0)}, {r, style(14, 3, 3), true, rect(24, 32, 2, 0), rect(24, 32, 2, 0), rect(26, 32, 0, 0)}, {r, style(15, 0, 0), false, rect(25, 32, 0, 0), rect(25, 32, 0, 0), rect(25, 32, 0, 0)}, {r, style(100, 100, 100), true, rect(40, 32, 0, 0), rect(40, 32, 0, 0), rect(40, 32, 0, 0)},
		{r, style(0, 0, 11), true, r, rect(10, 20, 30, 11), rect(10, 31, 30, 1)}, {r, style(0, 0, 12), true, r, r, rect(10, 32, 30, 0)}, {r, style(0, 0, 13), true, r, r, rect(10, 32, 30, 0)}, {r, style(0, 0, 100), true, r, r, rect(10, 32, 30, 0)}, {r, style(0, 0, 100), false, r, rect(10, 20, 30, 0), r},
		{r, style(2, 0, 100), true, rect(12, 22, 26, 8), rect(12, 22, 26, 8), rect(12, 30, 26, 0)}, {r, style(2, 3, 6), true, rect(12, 22, 26, 8), rect(12, 22, 26, 6), rect(15, 30, 20, 0)},
		// the title and the upper border take theirs ahead of the lower one
		{r, style(0, 3, 5), true, r, rect(10, 20, 30, 5), rect(13, 28, 24, 1)}, {r, style(0, 3, 6), true, r, rect(10, 20, 30, 6), rect(13, 29, 24, 0)}, {r, style(0, 3, 7), true, r, rect(10, 20, 30, 7), rect(13, 30, 24, 0)}, {r, style(0, 3, 9), true, r, rect(10, 20, 30, 9), rect(13, 32, 24, 0)}, {r, style(0, 3, 10), true, r, rect(10, 20, 30, 10), rect(13, 32, 24, 0)},
		{r, style(0, 6, 0), false, r, rect(10, 20, 30, 0), rect(16, 26, 18, 0)}, {r, style(0, 8, 0), false, r, rect(10, 20, 30, 0), rect(18, 28, 14, 0)}, {r, style(0, 16, 0), false, r, rect(10, 20, 30, 0), rect(26, 32, 0, 0)}, {r, style(0, 99, 0), false, r, rect(10, 20, 30, 0), rect(40, 32, 0, 0)},
		{one, style(0, 0, 0), true, one, rect(4, 5, 1, 0), one}, {one, style(1, 0, 0), true, rect(5, 6, 0, 0), rect(5, 6, 0, 0), rect(5, 6, 0, 0)}, {one, style(0, 1, 0), true, one, rect(4, 5, 1, 0), rect(5, 6, 0, 0)}, {one, style(0, 0, 1), true, one, one, rect(4, 6, 1, 0)},
	})
}

// TestLeafAtEdges: what is behind the plane's last place stands at it.
func TestLeafAtEdges(t *testing.T) {
	last, line := rect(high, high, 1, 1), rect(low, high-1, all, 2)
	checkLeaf(t, []place{
		{last, style(0, 0, 1), true, last, last, rect(high, high, 1, 0)}, {last, style(1, 0, 0), true, rect(high, high, 0, 0), rect(high, high, 0, 0), rect(high, high, 0, 0)}, {last, style(0, 1, 0), false, last, rect(high, high, 1, 0), rect(high, high, 0, 0)},
		{line, style(0, 0, 1), true, line, rect(low, high-1, all, 1), rect(low, high, all, 1)}, {line, style(0, 0, 2), true, line, line, rect(low, high, all, 0)}, {line, style(2, 0, 3), true, rect(low+2, high, all-4, 0), rect(low+2, high, all-4, 0), rect(low+2, high, all-4, 0)},
		{rect(high-1, low, 2, 9), style(1, 1, 1), true, rect(high, low+1, 0, 7), rect(high, low+1, 0, 1), rect(high, low+3, 0, 4)},
	})
	for _, r := range hollow() {
		none := style(0, 0, 0)
		checkLeaf(t, []place{{r, none, true, r, rect(r.X, r.Y, r.W, 0), r}, {r, none, false, r, rect(r.X, r.Y, r.W, 0), r}})
	}
	checkLeaf(t, []place{{rect(3, 4, 0, 9), style(1, 1, 2), true, rect(3, 5, 0, 7), rect(3, 5, 0, 2), rect(3, 8, 0, 3)}, {rect(3, 4, 9, 0), style(1, 1, 2), true, rect(4, 4, 7, 0), rect(4, 4, 7, 0), rect(5, 4, 5, 0)}})
}

// TestLeafOfWrong: of what is not right geom.Inset leaves the zero rectangle; the outer one is what was asked for.
func TestLeafOfWrong(t *testing.T) {
	for _, r := range wrong() {
		for _, s := range []api.Style{style(0, 0, 0), style(1, 2, 3), style(100, 100, 100)} {
			checkLeaf(t, []place{{r, s, true, api.Rect{}, api.Rect{}, api.Rect{}}, {r, s, false, api.Rect{}, api.Rect{}, api.Rect{}}})
		}
	}
}

// TestLeafOfWrongStyle: Leaf takes any style: numbers below 0 count as 0, as with geom.Inset, and what is too great takes all.
func TestLeafOfWrongStyle(t *testing.T) {
	r := rect(10, 20, 30, 40)
	for _, n := range []int{-1, -7, -101, math.MinInt + 1, math.MinInt} {
		checkLeaf(t, []place{
			{r, style(n, n, n), true, r, rect(10, 20, 30, 0), r}, {r, style(n, n, n), false, r, rect(10, 20, 30, 0), r}, {r, style(n, 2, 5), true, r, rect(10, 20, 30, 5), rect(12, 27, 26, 31)}, {r, style(2, n, 5), true, rect(12, 22, 26, 36), rect(12, 22, 26, 5), rect(12, 27, 26, 31)},
			{r, style(2, 3, n), true, rect(12, 22, 26, 36), rect(12, 22, 26, 0), rect(15, 25, 20, 30)}, {r, style(2, 3, n), false, rect(12, 22, 26, 36), rect(12, 22, 26, 0), rect(15, 25, 20, 30)},
		})
	}
	for _, n := range []int{101, 65536, math.MaxInt32, math.MaxInt - 1, math.MaxInt} {
		checkLeaf(t, []place{
			{r, style(n, 0, 0), true, rect(40, 60, 0, 0), rect(40, 60, 0, 0), rect(40, 60, 0, 0)}, {r, style(0, n, 0), true, r, rect(10, 20, 30, 0), rect(40, 60, 0, 0)}, {r, style(0, 0, n), true, r, r, rect(10, 60, 30, 0)}, {r, style(0, 0, n), false, r, rect(10, 20, 30, 0), r},
			{r, style(0, 1, n), true, r, r, rect(11, 60, 28, 0)}, {r, style(0, n, 1), true, r, rect(10, 20, 30, 1), rect(40, 60, 0, 0)}, {r, style(0, n, n), true, r, r, rect(40, 60, 0, 0)}, {r, style(n, n, n), true, rect(40, 60, 0, 0), rect(40, 60, 0, 0), rect(40, 60, 0, 0)},
		})
	}
}
