package float_test

import (
	"math"
	"testing"

	"casement/api"
	"casement/float"
)

// frame is a case of Frame, and of Inner back again.
type frame struct {
	r    api.Rect
	s    api.Style
	want api.Rect
}

func checkFrame(t *testing.T, cases []frame) {
	t.Helper()
	for _, c := range cases {
		if got, ok := float.Frame(c.r, c.s); !ok || got != c.want {
			t.Errorf("Frame(%v, %v) = %v, %v, not %v", c.r, c.s, got, ok, c.want)
		}
		if got := float.Inner(c.want, c.s); got != c.r {
			t.Errorf("Inner(%v, %v) = %v, not %v", c.want, c.s, got, c.r)
		}
	}
}

func checkNoFrame(t *testing.T, r api.Rect, s api.Style) {
	t.Helper()
	if got, ok := float.Frame(r, s); ok || got != (api.Rect{}) {
		t.Errorf("Frame(%v, %v) = %v, %v", r, s, got, ok)
	}
}

func checkInner(t *testing.T, f api.Rect, s api.Style, want api.Rect) {
	t.Helper()
	if got := float.Inner(f, s); got != want {
		t.Errorf("Inner(%v, %v) = %v, not %v", f, s, got, want)
	}
}

func TestFrame(t *testing.T) {
	r := rect(10, 20, 30, 40)
	checkFrame(t, []frame{
		{r, style(0, 0, 0), r}, {r, style(0, 2, 8), rect(8, 10, 34, 52)}, {r, style(0, 2, 0), rect(8, 18, 34, 44)}, {r, style(0, 0, 8), rect(10, 12, 30, 48)}, {r, style(0, 1, 1), rect(9, 18, 32, 43)}, {r, style(0, 100, 100), rect(-90, -180, 230, 340)}, {rect(-700, -900, 1, 2), style(0, 3, 4), rect(-703, -907, 7, 12)},
		{rect(3, 4, 0, 9), style(0, 0, 0), rect(3, 4, 0, 9)}, {rect(3, 4, 9, 0), style(0, 5, 6), rect(-2, -7, 19, 16)}, {rect(3, 4, 0, 0), style(0, 1, 0), rect(2, 3, 2, 2)}, {api.Rect{}, style(0, 0, 7), rect(0, -7, 0, 7)}, {api.Rect{}, style(0, 0, 0), api.Rect{}}, {plane, style(0, 0, 0), plane},
	})
}

// TestFrameOfAllStyles: each number from 0 to 100; the gap plays no part but that it may not be any.
func TestFrameOfAllStyles(t *testing.T) {
	r := rect(-30, 40, 25, 15)
	for n := 0; n <= 100; n++ {
		checkFrame(t, []frame{
			{r, style(n, 0, 0), r}, {r, style(n, 3, 9), rect(-33, 28, 31, 30)}, {r, style(0, n, 0), rect(-30-n, 40-n, 25+2*n, 15+2*n)}, {r, style(0, 0, n), rect(-30, 40-n, 25, 15+n)}, {r, style(100, n, 100-n), rect(-30-n, -60, 25+2*n, 115+n)},
		})
	}
}

// wrongStyles have one wrong number, whatever the others are, or two, or three.
func wrongStyles() []api.Style {
	var l []api.Style
	for _, n := range []int{-1, 101, -100, 102, 200, 256, 300, 1 << 32, -1 << 32, 1<<32 + 50, math.MinInt, math.MaxInt} {
		l = append(l, style(n, 0, 0), style(0, n, 0), style(0, 0, n), style(n, 100, 7), style(1, n, 100), style(100, 50, n), style(n, n, 0), style(n, 0, n), style(0, n, n), style(n, n, n), style(n, -n, 0), style(0, n, -n))
	}
	return l
}

// TestWrongStyles have no frame, and no client in it.
func TestWrongStyles(t *testing.T) {
	for _, s := range wrongStyles() {
		for _, r := range append(empty(), rect(10, 20, 30, 40), rect(0, 0, 5000, 5000), plane) {
			checkNoFrame(t, r, s)
			checkInner(t, r, s, api.Rect{})
		}
	}
}

// TestNotRight: what is not right has no frame, though what is around it would be.
func TestNotRight(t *testing.T) {
	l := append(wrong(), rect(0, 0, -1, 5), rect(0, 0, 5, -1), rect(0, 0, -2, -2), rect(9, 9, -4, 3), rect(high+1, 0, -2, 5), rect(0, high+1, 5, -2), rect(high+1, high+1, -9, -9), rect(high+100, high+100, -200, -200))
	for _, r := range l {
		for _, s := range []api.Style{style(0, 0, 0), style(0, 1, 0), style(0, 2, 1), style(0, 5, 5), style(1, 100, 100), style(0, 0, 9), style(0, 0, 100), style(0, 100, 0)} {
			checkNoFrame(t, r, s)
			checkInner(t, r, s, api.Rect{})
		}
	}
}

// TestFrameAtEdges: it may reach the plane's edges, and no further, on none of its sides.
func TestFrameAtEdges(t *testing.T) {
	s := style(0, 3, 7)
	checkFrame(t, []frame{
		{rect(low+3, 0, 5, 5), s, rect(low, -10, 11, 18)}, {rect(0, low+10, 5, 5), s, rect(-3, low, 11, 18)}, {rect(high-7, 0, 5, 5), s, rect(high-10, -10, 11, 18)}, {rect(0, high-7, 5, 5), s, rect(-3, high-17, 11, 18)}, {rect(low+3, low+10, all-6, all-13), s, plane},
		{rect(low+3, 0, all-6, 5), s, rect(low, -10, all, 18)}, {rect(0, low+10, 5, all-13), s, rect(-3, low, 11, all)}, {rect(high-2, high-2, 0, 0), s, rect(high-5, high-12, 6, 13)}, {rect(low+3, low+10, 0, 0), s, rect(low, low, 6, 13)}, {rect(high, high, 0, 0), style(0, 0, 0), rect(high, high, 0, 0)}, {rect(high, high, 0, 0), style(0, 1, 0), rect(high-1, high-1, 2, 2)}, {rect(high, high, 0, 0), style(0, 0, 7), rect(high, high-7, 0, 7)},
		{rect(low, low+9, 5, 5), style(0, 0, 9), rect(low, low, 5, 14)}, {rect(low+100, low+200, all-200, all-300), style(100, 100, 100), plane},
	})
	for _, r := range []api.Rect{
		rect(low+2, 0, 5, 5), rect(0, low+9, 5, 5), rect(high-6, 0, 5, 5), rect(0, high-6, 5, 5), rect(low, 0, 5, 5), rect(0, low, 5, 5), rect(high-4, 0, 5, 5), rect(0, high-4, 5, 5), rect(low+3, low+10, all-5, all-13), rect(low+3, low+10, all-6, all-12), rect(low+2, low+10, all-6, all-13), rect(low+3, low+9, all-6, all-13), plane,
		rect(high-1, 0, 0, 0), rect(0, high-1, 0, 0), rect(high, high, 0, 0), rect(high, high, 1, 1), rect(low+2, low+10, 0, 0), rect(low+3, low+9, 0, 0), rect(low, low, 1, 1),
	} {
		checkNoFrame(t, r, s)
	}
	checkNoFrame(t, rect(low, 0, 5, 5), style(0, 1, 0))
	checkNoFrame(t, rect(0, low, 5, 5), style(0, 0, 1))
	checkNoFrame(t, rect(0, low+8, 5, 5), style(0, 0, 9))
	checkNoFrame(t, plane, style(0, 0, 1))
	checkNoFrame(t, rect(low+100, low+199, all-200, all-300), style(0, 100, 100))
}

// TestInner: a frame that is too small has nothing left in it, where geom.Inset leaves it; the upper edge takes its ahead of the lower one.
func TestInner(t *testing.T) {
	for _, c := range []struct {
		f    api.Rect
		s    api.Style
		want api.Rect
	}{
		{rect(8, 10, 34, 52), style(0, 2, 8), rect(10, 20, 30, 40)}, {rect(8, 10, 34, 52), style(100, 2, 8), rect(10, 20, 30, 40)}, {rect(8, 10, 34, 52), style(0, 0, 0), rect(8, 10, 34, 52)},
		{rect(10, 20, 5, 5), style(0, 3, 7), rect(13, 25, 0, 0)}, {rect(10, 20, 5, 12), style(0, 3, 7), rect(13, 30, 0, 0)}, {rect(10, 20, 5, 13), style(0, 3, 7), rect(13, 30, 0, 0)}, {rect(10, 20, 5, 14), style(0, 3, 7), rect(13, 30, 0, 1)}, {rect(10, 20, 6, 14), style(0, 3, 7), rect(13, 30, 0, 1)}, {rect(10, 20, 7, 14), style(0, 3, 7), rect(13, 30, 1, 1)},
		{rect(0, 0, 9, 5), style(0, 2, 2), rect(2, 4, 5, 0)}, {rect(0, 0, 9, 4), style(0, 2, 2), rect(2, 4, 5, 0)}, {rect(0, 0, 9, 3), style(0, 2, 2), rect(2, 3, 5, 0)}, {rect(0, 0, 3, 9), style(0, 2, 2), rect(2, 4, 0, 3)}, {rect(0, 0, 1, 9), style(0, 2, 2), rect(1, 4, 0, 3)}, {rect(5, 5, 50, 60), style(0, 100, 100), rect(55, 65, 0, 0)},
		{rect(high, high, 1, 1), style(0, 0, 1), rect(high, high, 1, 0)}, {rect(high, high, 1, 1), style(0, 1, 0), rect(high, high, 0, 0)}, {rect(high-9, high-9, 10, 10), style(0, 5, 5), rect(high-4, high, 0, 0)}, {rect(low, low, 10, 10), style(0, 2, 3), rect(low+2, low+5, 6, 3)},
		{rect(3, 4, 0, 9), style(0, 1, 2), rect(3, 7, 0, 5)}, {rect(3, 4, 9, 0), style(0, 1, 2), rect(4, 4, 7, 0)}, {api.Rect{}, style(0, 1, 2), api.Rect{}}, {plane, style(0, 1, 2), rect(low+1, low+3, all-2, all-4)},
	} {
		checkInner(t, c.f, c.s, c.want)
	}
	for _, f := range hollow() {
		checkInner(t, f, style(0, 0, 0), f)
	}
}
