package float_test

import (
	"math"
	"testing"

	"casement/api"
	"casement/float"
)

// resize is a case of Resize.
type resize struct {
	r      api.Rect
	h      api.Hints
	dw, dt int
	want   api.Rect
}

func checkResize(t *testing.T, cases []resize) {
	t.Helper()
	for _, c := range cases {
		if got := float.Resize(c.r, c.h, c.dw, c.dt); got != c.want {
			t.Errorf("Resize(%v, %+v, %d, %d) = %v, not %v", c.r, c.h, c.dw, c.dt, got, c.want)
		}
	}
}

// TestResize: its corner stays.
func TestResize(t *testing.T) {
	r := rect(10, 20, 30, 40)
	checkResize(t, []resize{
		{r, none, 0, 0, r}, {r, none, 5, 7, rect(10, 20, 35, 47)}, {r, none, -5, -7, rect(10, 20, 25, 33)}, {r, none, 5, -7, rect(10, 20, 35, 33)}, {r, none, -5, 7, rect(10, 20, 25, 47)}, {r, none, 1, 0, rect(10, 20, 31, 40)}, {r, none, 0, 1, rect(10, 20, 30, 41)},
		{r, none, -28, -38, rect(10, 20, 2, 2)}, {r, none, -29, -39, rect(10, 20, 1, 1)}, {r, none, -30, -40, rect(10, 20, 1, 1)}, {r, none, -31, -41, rect(10, 20, 1, 1)}, {r, none, -500, 500, rect(10, 20, 1, 540)}, {r, none, 500, -500, rect(10, 20, 530, 1)},
		{rect(-700, -900, 1, 2), none, 2, 1, rect(-700, -900, 3, 3)}, {rect(10, 20, 30, 30), api.Hints{IncW: 7, BaseW: 2}, 5, -100, rect(10, 20, 30, 1)},
	})
}

// TestResizeFits: the hints hold as size.Fit has them, also where it is not resized.
func TestResizeFits(t *testing.T) {
	r := rect(10, 20, 30, 40)
	steps := api.Hints{BaseW: 3, IncW: 7, BaseH: 2, IncH: 9}
	square := api.Hints{LowX: 1, LowY: 1, HighX: 1, HighY: 1}
	checkResize(t, []resize{
		{r, steps, 0, 0, rect(10, 20, 24, 38)}, {r, steps, 1, 6, rect(10, 20, 31, 38)}, {r, steps, 1, 7, rect(10, 20, 31, 47)}, {r, steps, -7, -3, rect(10, 20, 17, 29)}, {r, steps, -6, -2, rect(10, 20, 24, 38)}, {r, steps, -99, -99, rect(10, 20, 3, 2)},
		{r, least(50, 60), 0, 0, rect(10, 20, 50, 60)}, {r, least(50, 60), 30, 30, rect(10, 20, 60, 70)}, {r, least(25, 35), -9, -9, rect(10, 20, 25, 35)}, {r, api.Hints{MaxW: 20, MaxH: 25}, 5, 5, rect(10, 20, 20, 25)}, {r, api.Hints{MaxW: 35, MaxH: 45}, 9, 9, rect(10, 20, 35, 45)},
		{r, square, 0, 0, rect(10, 20, 30, 30)}, {r, square, 9, 0, rect(10, 20, 39, 39)}, {r, square, 0, 9, rect(10, 20, 30, 30)}, {r, square, -9, -90, rect(10, 20, 21, 21)}, {r, api.Hints{MinW: -4, MinH: 45, MaxH: 7, IncW: -1, BaseW: math.MinInt}, 1, -9, rect(10, 20, 31, 45)},
	})
}

// TestResizeHollow: what has no places gets some, as no size without them is good.
func TestResizeHollow(t *testing.T) {
	checkResize(t, []resize{
		{api.Rect{}, none, 0, 0, rect(0, 0, 1, 1)}, {rect(3, 4, 0, 9), none, 0, 0, rect(3, 4, 1, 9)}, {rect(3, 4, 9, 0), none, 0, 0, rect(3, 4, 9, 1)}, {rect(3, 4, 0, 0), none, 5, 6, rect(3, 4, 5, 6)}, {rect(3, 4, 0, 9), none, -5, -6, rect(3, 4, 1, 3)}, {rect(3, 4, 0, 0), least(7, 8), 5, 6, rect(3, 4, 7, 8)},
		{rect(high, high, 0, 0), none, 0, 0, rect(high, high, 1, 1)}, {rect(high, high, 0, 0), none, 5, 6, rect(high-4, high-5, 5, 6)}, {rect(low, low, 0, 0), none, 5, 6, rect(low, low, 5, 6)},
	})
}

func TestResizeOfWrong(t *testing.T) {
	for _, r := range wrong() {
		for _, h := range []api.Hints{none, least(5, 5)} {
			checkResize(t, []resize{{r, h, 0, 0, api.Rect{}}, {r, h, 100, 100, api.Rect{}}, {r, h, -3, 1, api.Rect{}}, {r, h, math.MaxInt, math.MaxInt, api.Rect{}}, {r, h, math.MinInt, math.MinInt, api.Rect{}}})
		}
	}
}

// TestResizeFar: changes of any length, whose sums with lengths go round.
func TestResizeFar(t *testing.T) {
	r := rect(-10, 20, 30, 40)
	steps := api.Hints{BaseW: 3, IncW: 7, MaxW: 100, MaxH: 200, BaseH: 2, IncH: 9}
	for _, n := range far() {
		checkResize(t, []resize{
			{r, none, n, n, rect(low+1, low+1, top, top)}, {r, none, n, 0, rect(low+1, 20, top, 40)}, {r, none, 0, n, rect(-10, low+1, 30, top)}, {r, none, -n, -n, rect(-10, 20, 1, 1)}, {r, none, -n - 1, 0, rect(-10, 20, 1, 40)}, {r, none, 0, -n - 1, rect(-10, 20, 30, 1)},
			{r, steps, n, n, rect(-10, 20, 94, 200)}, {r, steps, -n, n, rect(-10, 20, 3, 200)}, {r, steps, n, -n - 1, rect(-10, 20, 94, 2)}, {plane, none, n, n, rect(low, low, top, top)}, {plane, none, -n, 0, rect(low, low, 1, top)}, {plane, none, 0, -n, rect(low, low, top, 1)}, {api.Rect{}, none, n, n, rect(low+1, low+1, top, top)},
		})
	}
}

// TestResizeAtEdges: what would be off the plane is moved onto it.
func TestResizeAtEdges(t *testing.T) {
	r := rect(high-29, high-39, 30, 40)
	checkResize(t, []resize{
		{r, none, 0, 0, r}, {r, none, -3, -4, rect(high-29, high-39, 27, 36)}, {r, none, 3, 4, rect(high-32, high-43, 33, 44)}, {r, none, 3, -4, rect(high-32, high-39, 33, 36)}, {r, none, -3, 4, rect(high-29, high-43, 27, 44)}, {r, least(100, 1), 0, 0, rect(high-99, high-39, 100, 40)}, {r, none, 20000, 0, rect(high-20029, high-39, 20030, 40)},
		{rect(high-30, high-40, 30, 40), none, 1, 1, rect(high-30, high-40, 31, 41)}, {rect(high-30, high-40, 30, 40), none, 2, 2, rect(high-31, high-41, 32, 42)}, {rect(low, low, 30, 40), none, 5, 5, rect(low, low, 35, 45)}, {rect(low, low, 30, 40), none, -5, -5, rect(low, low, 25, 35)},
		{plane, none, 0, 0, rect(low, low, top, top)}, {plane, none, -1, -1, rect(low, low, top, top)}, {plane, none, -2, -3, rect(low, low, top-1, top-2)}, {rect(low+1, low+1, all-1, all-1), none, 0, 0, rect(low+1, low+1, top, top)}, {rect(low+2, low+2, 9, 9), least(top, top), 0, 0, rect(low+1, low+1, top, top)},
	})
}
