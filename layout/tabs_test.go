package layout_test

import (
	"math"
	"slices"
	"testing"

	"casement/api"
	"casement/layout"
)

// tabbedOf is a strip of so many clients.
func tabbedOf(r api.Rect, count int) layout.Strip { return tabs(r, 0, make([]int, count)...) }

func stackOf(r api.Rect, count int) layout.Strip { return stack(r, 0, make([]int, count)...) }

func checkTabs(t *testing.T, s layout.Strip, want ...api.Rect) {
	t.Helper()
	if got := layout.Tabs(s); !slices.Equal(got, want) {
		t.Errorf("Tabs(%v) = %v, not %v", s, got, want)
	}
}

// TestTabs: like parts, of what is left over one place more to the first ones.
func TestTabs(t *testing.T) {
	r := rect(-4, 10, 20, 9)
	checkTabs(t, tabbedOf(r, 1), r)
	checkTabs(t, stackOf(r, 1), r)
	checkTabs(t, tabbedOf(r, 2), rect(-4, 10, 10, 9), rect(6, 10, 10, 9))
	checkTabs(t, tabbedOf(r, 3), rect(-4, 10, 7, 9), rect(3, 10, 7, 9), rect(10, 10, 6, 9))
	checkTabs(t, stackOf(r, 3), rect(-4, 10, 20, 3), rect(-4, 13, 20, 3), rect(-4, 16, 20, 3))
	checkTabs(t, stackOf(r, 4), rect(-4, 10, 20, 3), rect(-4, 13, 20, 2), rect(-4, 15, 20, 2), rect(-4, 17, 20, 2))
	checkTabs(t, tabbedOf(rect(0, 0, 2, 5), 4), rect(0, 0, 1, 5), rect(1, 0, 1, 5), rect(2, 0, 0, 5), rect(2, 0, 0, 5))
	checkTabs(t, stackOf(rect(0, 0, 5, 1), 3), rect(0, 0, 5, 1), rect(0, 1, 5, 0), rect(0, 1, 5, 0))
	checkTabs(t, tabbedOf(plane, 2), rect(low, low, high+1, all), rect(0, low, high+1, all))
	checkTabs(t, stackOf(plane, 4), rect(low, low, all, all/4), rect(low, low/2, all, all/4), rect(low, 0, all, all/4), rect(low, all/4, all, all/4))
	checkTabs(t, tabbedOf(rect(high, high, 1, 1), 2), rect(high, high, 1, 1), rect(high, high, 0, 1))
	checkTabs(t, stackOf(rect(high, high, 1, 1), 2), rect(high, high, 1, 1), rect(high, high, 1, 0))
}

// TestTabsOfAny: which clients they are, and which is shown, plays no part.
func TestTabsOfAny(t *testing.T) {
	r := rect(0, 0, 7, 7)
	for _, n := range []int{0, 1, 2, -1, math.MinInt, math.MaxInt} {
		checkTabs(t, tabs(r, n, n, n), rect(0, 0, 4, 7), rect(4, 0, 3, 7))
		checkTabs(t, stack(r, n, 5, n), rect(0, 0, 7, 4), rect(0, 4, 7, 3))
	}
}

func TestTabsOfHollow(t *testing.T) {
	for _, r := range hollow() {
		checkTabs(t, tabbedOf(r, 1), r)
		checkTabs(t, stackOf(r, 1), r)
	}
	checkTabs(t, tabbedOf(rect(3, 4, 0, 9), 2), rect(3, 4, 0, 9), rect(3, 4, 0, 9))
	checkTabs(t, stackOf(rect(3, 4, 0, 9), 2), rect(3, 4, 0, 5), rect(3, 9, 0, 4))
	checkTabs(t, tabbedOf(rect(3, 4, 9, 0), 2), rect(3, 4, 5, 0), rect(8, 4, 4, 0))
	checkTabs(t, stackOf(rect(3, 4, 9, 0), 2), rect(3, 4, 9, 0), rect(3, 4, 9, 0))
}

// TestTabsMost: of 64 clients there are as many, of more none.
func TestTabsMost(t *testing.T) {
	r := rect(0, 0, 128, 65)
	for _, count := range []int{63, 64} {
		for _, s := range []layout.Strip{tabbedOf(r, count), stackOf(r, count)} {
			got := layout.Tabs(s)
			if len(got) != count {
				t.Fatalf("Tabs of %d: %v", count, got)
			}
			for i, part := range got[:count-1] {
				if next := got[i+1]; !s.Down && (next.X != part.X+part.W || part.H != 65) || s.Down && (next.Y != part.Y+part.H || part.W != 128) {
					t.Errorf("Tabs of %d: %v, then %v", count, part, next)
				}
			}
		}
	}
	for _, count := range []int{65, 66, 128, 5000} {
		checkTabs(t, tabbedOf(r, count))
		checkTabs(t, stackOf(r, count))
	}
}

// TestTabsOfNone: there are no clients, or the rectangle is not right, also where the way that is cut is.
func TestTabsOfNone(t *testing.T) {
	for _, r := range append(hollow(), plane, rect(0, 0, 9, 9)) {
		checkTabs(t, tabs(r, 0))
		checkTabs(t, stack(r, 0))
		checkTabs(t, layout.Strip{Rect: r, Clients: []int{}})
	}
	checkTabs(t, layout.Strip{})
	for _, r := range wrong() {
		for _, count := range []int{0, 1, 2, 64, 65} {
			checkTabs(t, tabbedOf(r, count))
			checkTabs(t, stackOf(r, count))
		}
	}
}
