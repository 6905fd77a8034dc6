package layout_test

import (
	"math"
	"testing"

	"casement/api"
	"casement/layout"
)

// refused holds Place to an error, with nothing beside it.
func refused(t *testing.T, what string, c api.Con, r api.Rect, s api.Style, want api.Errno) {
	t.Helper()
	if cells, strips, e := layout.Place(c, r, s); len(cells) != 0 || len(strips) != 0 || e != want {
		t.Errorf("Place %s: %v, %v, %d, not %d", what, cells, strips, e, want)
	}
}

// endless is a split that has itself as its kid.
func endless(kids int) api.Con {
	c := h(make([]api.Con, kids)...)
	for i := range c.Kids {
		c.Kids[i] = c
	}
	return c
}

// noTrees are containers that are none, each for a reason of its own.
func noTrees() []api.Con {
	most := api.MaxWeight
	return []api.Con{
		{}, leaf(1), {Kind: api.SplitH}, {Weight: one}, weight(0, h(leaf(1))), weight(-1, v(leaf(1))), weight(most+1, tabbed(leaf(1))), split(5, leaf(1)), split(-1, leaf(1)), split(api.Leaf, leaf(1)), split(math.MaxInt), split(math.MinInt),
		{Kind: api.SplitH, Weight: one, Client: 1, Kids: leaves(1, 2)}, {Kind: api.Tabbed, Weight: one, Seen: 1, Kids: leaves(1, 2)}, {Kind: api.Stacked, Weight: one, Client: 3},
		h(leaf(1), leaf(1)), h(leaf(1), v(leaf(2), leaf(1))), tabbed(leaf(1), leaf(2), stacked(leaf(3), leaf(3))), h(leaf(1), seen(0, 0)), h(leaf(1), seen(-3, 0)), h(leaf(1), seen(2, -1)), h(h()), h(leaf(1), v()), tabbed(tabbed()), stacked(leaf(1), tabbed()),
		h(leaf(1), weight(0, leaf(2))), v(weight(most+1, leaf(1)), leaf(2)), tabbed(leaf(1), weight(-5, v(leaf(2)))), stacked(leaf(1), split(5, leaf(2))), h(leaf(1), api.Con{Kind: api.Leaf, Weight: one, Client: 2, Kids: leaves(3, 1)}),
		h(leaves(1, 65)...), v(leaf(1), stacked(leaves(2, 65)...)), h(v(leaves(1, 64)...), v(leaves(65, 64)...), leaf(129)), deep(9, api.SplitH, leaf(1)), deep(9, api.Tabbed, leaf(1)), v(leaf(1), deep(8, api.Stacked, leaf(2))),
		deep(5000, api.Tabbed, leaf(1)), endless(1), endless(2), endless(64), tabbed(leaf(1), leaf(2), endless(3)),
	}
}

// trees may be.
func trees() []api.Con {
	return []api.Con{
		h(), v(), tabbed(), stacked(), h(leaf(1)), v(leaf(1)), tabbed(leaf(1)), stacked(leaf(1)), h(leaf(1), v(leaf(2), tabbed(leaf(3), leaf(4)))), stacked(leaf(1), h(leaf(2), leaf(3))),
		deep(8, api.SplitV, leaf(1)), tabbed(leaves(1, 64)...), h(v(leaves(1, 64)...), v(leaves(65, 64)...)), weight(api.MaxWeight, h(weight(1, leaf(1)), weight(api.MaxWeight, leaf(math.MaxInt)))),
	}
}

// TestFirstError: what is no tree is told ahead of what is not right, that ahead of a style that may not be.
func TestFirstError(t *testing.T) {
	good, fine := rect(0, 0, 100, 80), style(1, 2, 10)
	styles := append(wrongStyles(), fine)
	for _, c := range noTrees() {
		for _, r := range append(wrong(), good) {
			for _, s := range styles {
				refused(t, "no tree", c, r, s, api.ErrTree)
			}
		}
	}
	for _, c := range trees() {
		for _, r := range wrong() {
			for _, s := range styles {
				refused(t, "on what is not right", c, r, s, api.ErrRect)
			}
		}
		for _, r := range append(hollow(), good, plane) {
			for _, s := range wrongStyles() {
				refused(t, "with no style", c, r, s, api.ErrArg)
			}
			if _, _, e := layout.Place(c, r, fine); e != api.OK {
				t.Errorf("Place(%v, %v) = %d", c, r, e)
			}
		}
	}
}
