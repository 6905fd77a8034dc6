package layout_test

import (
	"slices"
	"testing"

	"casement/api"
	"casement/layout"
	"casement/share"
)

const one = share.One

// leaf is one of a client that was seen as late as its number says.
func leaf(client int) api.Con { return seen(client, client) }

func seen(client, when int) api.Con {
	return api.Con{Kind: api.Leaf, Weight: one, Client: client, Seen: when}
}

func split(kind int, kids ...api.Con) api.Con {
	return api.Con{Kind: kind, Weight: one, Kids: kids}
}

func h(kids ...api.Con) api.Con       { return split(api.SplitH, kids...) }
func v(kids ...api.Con) api.Con       { return split(api.SplitV, kids...) }
func tabbed(kids ...api.Con) api.Con  { return split(api.Tabbed, kids...) }
func stacked(kids ...api.Con) api.Con { return split(api.Stacked, kids...) }

func weight(n int, c api.Con) api.Con {
	c.Weight = n
	return c
}

// leaves are those of the clients from first on.
func leaves(first, count int) []api.Con {
	var l []api.Con
	for client := first; client < first+count; client++ {
		l = append(l, leaf(client))
	}
	return l
}

// deep is a container within so many splits that have nothing else.
func deep(splits, kind int, c api.Con) api.Con {
	for range splits {
		c = split(kind, c)
	}
	return c
}

func splitKinds() []int { return []int{api.SplitH, api.SplitV, api.Tabbed, api.Stacked} }

// spot is what the layout says of a leaf: the rest of its cell is what Leaf says of that.
type spot struct {
	client        int
	outer         api.Rect
	shown, titled bool
}

// shown and hidden are spots with a title, top and under ones without: in a tabbed or stacked split.
func shown(client int, r api.Rect) spot  { return spot{client, r, true, true} }
func hidden(client int, r api.Rect) spot { return spot{client, r, false, true} }
func top(client int, r api.Rect) spot    { return spot{client, r, true, false} }
func under(client int, r api.Rect) spot  { return spot{client, r, false, false} }

func (p spot) cell(s api.Style) api.Cell {
	c := layout.Leaf(p.client, p.outer, s, p.titled)
	c.Shown = p.shown
	return c
}

func tabs(r api.Rect, shown int, clients ...int) layout.Strip {
	return layout.Strip{Rect: r, Clients: clients, Shown: shown}
}

func stack(r api.Rect, shown int, clients ...int) layout.Strip {
	return layout.Strip{Rect: r, Down: true, Clients: clients, Shown: shown}
}

func alike(a, b layout.Strip) bool {
	return a.Rect == b.Rect && a.Down == b.Down && a.Shown == b.Shown && slices.Equal(a.Clients, b.Clients)
}

// laid holds what Place says against spots and strips.
func laid(t *testing.T, c api.Con, r api.Rect, s api.Style, spots []spot, strips ...layout.Strip) {
	t.Helper()
	var want []api.Cell
	for _, p := range spots {
		want = append(want, p.cell(s))
	}
	cells, got, e := layout.Place(c, r, s)
	if e != api.OK || !slices.Equal(cells, want) || !slices.EqualFunc(got, strips, alike) {
		t.Errorf("Place(%v, %v, %v) =\n%v, %v, %d, not\n%v, %v", c, r, s, cells, got, e, want, strips)
	}
}

// styles to lay out with: what a leaf has within its part plays no part for the others.
func styles() []api.Style {
	return []api.Style{style(0, 0, 0), style(3, 2, 0), style(0, 0, 5), style(1, 2, 10), style(100, 100, 100)}
}

// TestExample is the chapter's own.
func TestExample(t *testing.T) {
	r := rect(0, 0, 9, 4)
	laid(t, h(seen(1, 0), seen(2, 0)), r, api.Style{}, []spot{shown(1, rect(0, 0, 5, 4)), shown(2, rect(5, 0, 4, 4))})
	laid(t, tabbed(seen(1, 0), seen(2, 0)), r, style(0, 0, 1), []spot{top(1, rect(0, 1, 9, 3)), under(2, rect(0, 1, 9, 3))}, tabs(rect(0, 0, 9, 1), 0, 1, 2))
}

// TestCells: all of a cell is as Leaf says, in all kinds of splits.
func TestCells(t *testing.T) {
	s, r := style(1, 2, 10), rect(0, 0, 100, 80)
	for _, c := range []struct {
		c    api.Con
		want api.Cell
	}{
		{h(leaf(7)), api.Cell{Client: 7, Outer: r, Frame: rect(1, 1, 98, 78), Title: rect(1, 1, 98, 10), Inner: rect(3, 13, 94, 64), Shown: true}},
		{v(leaf(7)), api.Cell{Client: 7, Outer: r, Frame: rect(1, 1, 98, 78), Title: rect(1, 1, 98, 10), Inner: rect(3, 13, 94, 64), Shown: true}},
		{tabbed(leaf(7)), api.Cell{Client: 7, Outer: rect(0, 10, 100, 70), Frame: rect(1, 11, 98, 68), Title: rect(1, 11, 98, 0), Inner: rect(3, 13, 94, 64), Shown: true}},
		{stacked(leaf(7), leaf(6)), api.Cell{Client: 7, Outer: rect(0, 20, 100, 60), Frame: rect(1, 21, 98, 58), Title: rect(1, 21, 98, 0), Inner: rect(3, 23, 94, 54), Shown: true}},
		{stacked(leaf(7), leaf(8)), api.Cell{Client: 7, Outer: rect(0, 20, 100, 60), Frame: rect(1, 21, 98, 58), Title: rect(1, 21, 98, 0), Inner: rect(3, 23, 94, 54)}},
		{tabbed(v(leaf(7), leaf(6)), leaf(5)), api.Cell{Client: 7, Outer: rect(0, 10, 100, 35), Frame: rect(1, 11, 98, 33), Title: rect(1, 11, 98, 10), Inner: rect(3, 23, 94, 19), Shown: true}},
	} {
		if cells, _, e := layout.Place(c.c, r, s); e != api.OK || cells[0] != c.want {
			t.Errorf("Place(%v) = %v, %d, not %v", c.c, cells, e, c.want)
		}
	}
}

// TestSplits: side by side, one above the other, by weights, in order, whenever they were seen.
func TestSplits(t *testing.T) {
	r := rect(-20, 30, 101, 61)
	for _, s := range styles() {
		laid(t, h(leaf(1)), r, s, []spot{shown(1, r)})
		laid(t, v(leaf(1)), r, s, []spot{shown(1, r)})
		laid(t, h(seen(3, 9), seen(1, 5), seen(2, 7)), r, s, []spot{shown(3, rect(-20, 30, 34, 61)), shown(1, rect(14, 30, 34, 61)), shown(2, rect(48, 30, 33, 61))})
		laid(t, v(seen(3, 5), seen(1, 5), seen(2, 7)), r, s, []spot{shown(3, rect(-20, 30, 101, 21)), shown(1, rect(-20, 51, 101, 20)), shown(2, rect(-20, 71, 101, 20))})
		laid(t, h(weight(1, leaf(4)), weight(3, leaf(5))), r, s, []spot{shown(4, rect(-20, 30, 25, 61)), shown(5, rect(5, 30, 76, 61))})
		laid(t, v(weight(4, leaf(4)), weight(2, leaf(5)), weight(1, leaf(6))), r, s, []spot{shown(4, rect(-20, 30, 101, 35)), shown(5, rect(-20, 65, 101, 17)), shown(6, rect(-20, 82, 101, 9))})
		laid(t, h(weight(1, leaf(1)), weight(api.MaxWeight, leaf(2))), r, s, []spot{shown(1, rect(-20, 30, 0, 61)), shown(2, rect(-20, 30, 101, 61))})
		laid(t, v(weight(api.MaxWeight, leaf(1)), weight(1, leaf(2))), r, s, []spot{shown(1, r), shown(2, rect(-20, 91, 101, 0))})
	}
}

// TestSplitsInSplits: each has its part cut by itself; the root's own weight plays no part.
func TestSplitsInSplits(t *testing.T) {
	r := rect(0, 0, 100, 80)
	for _, s := range styles() {
		laid(t, h(leaf(1), v(leaf(2), leaf(3))), r, s, []spot{shown(1, rect(0, 0, 50, 80)), shown(2, rect(50, 0, 50, 40)), shown(3, rect(50, 40, 50, 40))})
		laid(t, weight(1, v(h(leaf(1), leaf(2), leaf(3)), weight(one/2, h(leaf(4), weight(3*one, leaf(5)))))), r, s, []spot{shown(1, rect(0, 0, 34, 53)), shown(2, rect(34, 0, 33, 53)), shown(3, rect(67, 0, 33, 53)), shown(4, rect(0, 53, 25, 27)), shown(5, rect(25, 53, 75, 27))})
		laid(t, h(h(leaf(1), h(leaf(2), leaf(3))), leaf(4)), r, s, []spot{shown(1, rect(0, 0, 25, 80)), shown(2, rect(25, 0, 13, 80)), shown(3, rect(38, 0, 12, 80)), shown(4, rect(50, 0, 50, 80))})
		laid(t, deep(8, api.SplitV, leaf(5)), r, s, []spot{shown(5, r)})
		laid(t, h(leaf(1), deep(7, api.SplitH, leaf(5)), leaf(2)), r, s, []spot{shown(1, rect(0, 0, 34, 80)), shown(5, rect(34, 0, 33, 80)), shown(2, rect(67, 0, 33, 80))})
	}
}

// TestPiles: a strip for all, of a stacked one a title for each; the one that was seen last is shown, of those seen as late the first.
func TestPiles(t *testing.T) {
	r := rect(-5, 7, 40, 50)
	rest, less := rect(-5, 17, 40, 40), rect(-5, 37, 40, 20)
	s := style(1, 1, 10)
	laid(t, tabbed(leaf(1)), r, s, []spot{top(1, rest)}, tabs(rect(-5, 7, 40, 10), 0, 1))
	laid(t, stacked(leaf(1)), r, s, []spot{top(1, rest)}, stack(rect(-5, 7, 40, 10), 0, 1))
	laid(t, tabbed(leaf(1), leaf(2), leaf(3)), r, s, []spot{under(1, rest), under(2, rest), top(3, rest)}, tabs(rect(-5, 7, 40, 10), 2, 1, 2, 3))
	laid(t, stacked(leaf(3), leaf(2), leaf(1)), r, s, []spot{top(3, less), under(2, less), under(1, less)}, stack(rect(-5, 7, 40, 30), 0, 3, 2, 1))
	laid(t, tabbed(seen(1, 0), seen(2, 4), seen(3, 4)), r, s, []spot{under(1, rest), top(2, rest), under(3, rest)}, tabs(rect(-5, 7, 40, 10), 1, 1, 2, 3))
	laid(t, stacked(seen(9, 0), seen(8, 0), seen(7, 0)), r, s, []spot{top(9, less), under(8, less), under(7, less)}, stack(rect(-5, 7, 40, 30), 0, 9, 8, 7))
	laid(t, tabbed(weight(1, leaf(1)), weight(api.MaxWeight, leaf(2))), r, s, []spot{under(1, rest), top(2, rest)}, tabs(rect(-5, 7, 40, 10), 1, 1, 2))
}

// TestPilesTooSmall: the strip takes all there is, and leaves the kids none; without titles it has no place.
func TestPilesTooSmall(t *testing.T) {
	r := rect(3, 4, 20, 15)
	gone, none := rect(3, 19, 20, 0), rect(3, 4, 20, 0)
	laid(t, tabbed(leaf(1), leaf(2)), r, style(0, 1, 14), []spot{under(1, rect(3, 18, 20, 1)), top(2, rect(3, 18, 20, 1))}, tabs(rect(3, 4, 20, 14), 1, 1, 2))
	laid(t, stacked(leaf(1), leaf(2)), r, style(0, 1, 7), []spot{under(1, rect(3, 18, 20, 1)), top(2, rect(3, 18, 20, 1))}, stack(rect(3, 4, 20, 14), 1, 1, 2))
	for _, title := range []int{15, 16, 100} {
		laid(t, tabbed(leaf(1), leaf(2)), r, style(0, 1, title), []spot{under(1, gone), top(2, gone)}, tabs(r, 1, 1, 2))
		laid(t, stacked(leaf(1), leaf(2)), r, style(0, 1, title), []spot{under(1, gone), top(2, gone)}, stack(r, 1, 1, 2))
	}
	laid(t, stacked(leaf(1), leaf(2)), r, style(0, 1, 8), []spot{under(1, gone), top(2, gone)}, stack(r, 1, 1, 2))
	laid(t, tabbed(leaf(1), leaf(2)), r, style(5, 1, 0), []spot{under(1, r), top(2, r)}, tabs(none, 1, 1, 2))
	laid(t, stacked(leaf(1), leaf(2)), r, style(5, 1, 0), []spot{under(1, r), top(2, r)}, stack(none, 1, 1, 2))
	laid(t, tabbed(stacked(leaf(1), leaf(2)), leaf(3)), r, style(0, 0, 6), []spot{under(1, gone), under(2, gone), top(3, rect(3, 10, 20, 9))}, tabs(rect(3, 4, 20, 6), 1, 2, 3))
	laid(t, tabbed(stacked(leaf(1), leaf(4)), leaf(3)), r, style(0, 0, 6), []spot{under(1, gone), top(4, gone), under(3, rect(3, 10, 20, 9))}, tabs(rect(3, 4, 20, 6), 0, 4, 3), stack(rect(3, 10, 20, 9), 1, 1, 4))
}

// TestNamesOfKids: of a kid that is a split the one in it that was seen last, however deep, of those seen as late the first.
func TestNamesOfKids(t *testing.T) {
	r, s := rect(0, 0, 60, 60), style(0, 0, 10)
	rest := rect(0, 10, 60, 50)
	laid(t, tabbed(v(leaf(1), leaf(8), leaf(2)), leaf(3)), r, s, []spot{shown(1, rect(0, 10, 60, 17)), shown(8, rect(0, 27, 60, 17)), shown(2, rect(0, 44, 60, 16)), under(3, rest)}, tabs(rect(0, 0, 60, 10), 0, 8, 3))
	laid(t, tabbed(leaf(3), h(seen(4, 1), v(seen(5, 2), seen(6, 2)))), r, s, []spot{top(3, rest), hidden(4, rect(0, 10, 30, 50)), hidden(5, rect(30, 10, 30, 25)), hidden(6, rect(30, 35, 30, 25))}, tabs(rect(0, 0, 60, 10), 0, 3, 5))
	laid(t, tabbed(leaf(3), h(seen(4, 1), v(seen(5, 2), seen(6, 9)))), r, s, []spot{under(3, rest), shown(4, rect(0, 10, 30, 50)), shown(5, rect(30, 10, 30, 25)), shown(6, rect(30, 35, 30, 25))}, tabs(rect(0, 0, 60, 10), 1, 3, 6))
	laid(t, tabbed(seen(1, 5), h(seen(2, 5), seen(3, 5))), r, s, []spot{top(1, rest), hidden(2, rect(0, 10, 30, 50)), hidden(3, rect(30, 10, 30, 50))}, tabs(rect(0, 0, 60, 10), 0, 1, 2))
	laid(t, tabbed(h(seen(2, 4), seen(3, 5)), seen(1, 5)), r, s, []spot{shown(2, rect(0, 10, 30, 50)), shown(3, rect(30, 10, 30, 50)), under(1, rest)}, tabs(rect(0, 0, 60, 10), 0, 3, 1))
	laid(t, tabbed(h(seen(2, 0), seen(3, 0)), v(seen(1, 0), seen(4, 0))), r, s, []spot{shown(2, rect(0, 10, 30, 50)), shown(3, rect(30, 10, 30, 50)), hidden(1, rect(0, 10, 60, 25)), hidden(4, rect(0, 35, 60, 25))}, tabs(rect(0, 0, 60, 10), 0, 2, 1))
	laid(t, stacked(deep(7, api.SplitH, leaf(9)), leaf(3)), r, s, []spot{shown(9, rect(0, 20, 60, 40)), under(3, rect(0, 20, 60, 40))}, stack(rect(0, 0, 60, 20), 0, 9, 3))
}

// TestPilesInPiles: a strip stands ahead of those within; what is not shown has none, but keeps the room for one.
func TestPilesInPiles(t *testing.T) {
	r, s := rect(0, 0, 60, 90), style(2, 1, 10)
	in, deeper := rect(0, 10, 60, 80), rect(0, 30, 60, 60)
	laid(t, tabbed(leaf(1), stacked(leaf(2), leaf(9))), r, s, []spot{under(1, in), under(2, deeper), top(9, deeper)}, tabs(rect(0, 0, 60, 10), 1, 1, 9), stack(rect(0, 10, 60, 20), 1, 2, 9))
	laid(t, tabbed(leaf(10), stacked(leaf(2), leaf(9))), r, s, []spot{top(10, in), under(2, deeper), under(9, deeper)}, tabs(rect(0, 0, 60, 10), 0, 10, 9))
	laid(t, tabbed(leaf(10), h(leaf(1), stacked(leaf(2), leaf(9)))), r, s, []spot{top(10, in), hidden(1, rect(0, 10, 30, 80)), under(2, rect(30, 30, 30, 60)), under(9, rect(30, 30, 30, 60))}, tabs(rect(0, 0, 60, 10), 0, 10, 9))
	laid(t, tabbed(tabbed(leaf(1), stacked(leaf(2))), stacked(tabbed(leaf(3)), leaf(4))), r, s,
		[]spot{under(1, rect(0, 20, 60, 70)), under(2, rect(0, 30, 60, 60)), under(3, rect(0, 40, 60, 50)), top(4, rect(0, 30, 60, 60))}, tabs(rect(0, 0, 60, 10), 1, 2, 4), stack(rect(0, 10, 60, 20), 1, 3, 4))
	laid(t, stacked(tabbed(leaf(1), stacked(leaf(8), leaf(7))), leaf(5)), r, s,
		[]spot{under(1, rect(0, 30, 60, 60)), top(8, rect(0, 50, 60, 40)), under(7, rect(0, 50, 60, 40)), under(5, rect(0, 20, 60, 70))}, stack(rect(0, 0, 60, 20), 0, 8, 5), tabs(rect(0, 20, 60, 10), 1, 1, 8), stack(rect(0, 30, 60, 20), 0, 8, 7))
	laid(t, h(tabbed(leaf(1), v(tabbed(leaf(2)), tabbed(leaf(9)))), stacked(leaf(4), leaf(3)), leaf(5)), r, s,
		[]spot{under(1, rect(0, 10, 20, 80)), top(2, rect(0, 20, 20, 30)), top(9, rect(0, 60, 20, 30)), top(4, rect(20, 20, 20, 70)), under(3, rect(20, 20, 20, 70)), shown(5, rect(40, 0, 20, 90))},
		tabs(rect(0, 0, 20, 10), 1, 1, 9), tabs(rect(0, 10, 20, 10), 0, 2), tabs(rect(0, 50, 20, 10), 0, 9), stack(rect(20, 0, 20, 20), 0, 4, 3))
	laid(t, deep(8, api.Tabbed, leaf(1)), r, style(0, 0, 12), []spot{top(1, rect(0, 90, 60, 0))},
		tabs(rect(0, 0, 60, 12), 0, 1), tabs(rect(0, 12, 60, 12), 0, 1), tabs(rect(0, 24, 60, 12), 0, 1), tabs(rect(0, 36, 60, 12), 0, 1), tabs(rect(0, 48, 60, 12), 0, 1), tabs(rect(0, 60, 60, 12), 0, 1), tabs(rect(0, 72, 60, 12), 0, 1), tabs(rect(0, 84, 60, 6), 0, 1))
}

// TestNoKids: a root of any kind may have none: there is nothing then, no strip either.
func TestNoKids(t *testing.T) {
	for _, kind := range splitKinds() {
		for _, s := range styles() {
			for _, r := range append(hollow(), plane, rect(3, 4, 50, 60)) {
				laid(t, split(kind), r, s, nil)
			}
		}
	}
}

// TestHollow: what has no place is laid out, too.
func TestHollow(t *testing.T) {
	for _, r := range hollow() {
		laid(t, h(leaf(1)), r, style(1, 1, 1), []spot{shown(1, r)})
		laid(t, tabbed(leaf(1)), r, style(0, 0, 0), []spot{top(1, r)}, tabs(rect(r.X, r.Y, r.W, 0), 0, 1))
	}
	laid(t, h(leaf(1), leaf(2)), rect(3, 4, 0, 9), style(1, 1, 1), []spot{shown(1, rect(3, 4, 0, 9)), shown(2, rect(3, 4, 0, 9))})
	laid(t, v(leaf(1), leaf(2)), rect(3, 4, 0, 9), style(1, 1, 1), []spot{shown(1, rect(3, 4, 0, 5)), shown(2, rect(3, 9, 0, 4))})
	laid(t, stacked(leaf(1), leaf(2)), rect(3, 4, 0, 9), style(1, 1, 2), []spot{under(1, rect(3, 8, 0, 5)), top(2, rect(3, 8, 0, 5))}, stack(rect(3, 4, 0, 4), 1, 1, 2))
	laid(t, tabbed(leaf(1), h(leaf(2), leaf(3))), rect(3, 4, 9, 0), style(1, 1, 2), []spot{under(1, rect(3, 4, 9, 0)), shown(2, rect(3, 4, 5, 0)), shown(3, rect(8, 4, 4, 0))}, tabs(rect(3, 4, 9, 0), 1, 1, 3))
}

// TestPlaceAtEdges: all of the plane, and its last places, behind which there is none to stand at.
func TestPlaceAtEdges(t *testing.T) {
	last, s := rect(high, high, 1, 1), style(1, 1, 1)
	gone := rect(high, high, 1, 0)
	laid(t, h(leaf(1), leaf(2)), plane, s, []spot{shown(1, rect(low, low, high+1, all)), shown(2, rect(0, low, high+1, all))})
	laid(t, v(leaf(1), leaf(2)), plane, s, []spot{shown(1, rect(low, low, all, high+1)), shown(2, rect(low, 0, all, high+1))})
	laid(t, stacked(leaf(1), leaf(2)), plane, style(0, 0, 100), []spot{under(1, rect(low, low+200, all, all-200)), top(2, rect(low, low+200, all, all-200))}, stack(rect(low, low, all, 200), 1, 1, 2))
	laid(t, h(leaf(1), leaf(2)), last, s, []spot{shown(1, last), shown(2, rect(high, high, 0, 1))})
	laid(t, v(weight(1, leaf(1)), weight(2, leaf(2)), weight(1, leaf(3))), last, s, []spot{shown(1, gone), shown(2, last), shown(3, gone)})
	laid(t, tabbed(leaf(1), v(leaf(2), leaf(3))), last, s, []spot{under(1, gone), shown(2, gone), shown(3, gone)}, tabs(last, 1, 1, 3))
}

// TestMost: as many kids, leaves and levels as a tree may have.
func TestMost(t *testing.T) {
	r, s := rect(0, 0, 640, 128), style(1, 1, 1)
	var side, above []spot
	var clients []int
	for i := range 64 {
		side = append(side, shown(i+1, rect(10*i, 0, 10, 128)))
		above = append(above, shown(i+1, rect(0, 2*i, 640, 2)))
		clients = append(clients, i+1)
	}
	laid(t, h(leaves(1, 64)...), r, s, side)
	laid(t, v(leaves(1, 64)...), r, s, above)
	var below []spot
	for client := 1; client < 64; client++ {
		below = append(below, under(client, rect(0, 64, 640, 64)))
	}
	laid(t, stacked(leaves(1, 64)...), r, s, append(below, top(64, rect(0, 64, 640, 64))), stack(rect(0, 0, 640, 64), 63, clients...))
	var halves []spot
	for i := range 128 {
		halves = append(halves, shown(i+1, rect(10*(i%64), 64*(i/64), 10, 64)))
	}
	laid(t, v(h(leaves(1, 64)...), h(leaves(65, 64)...)), r, s, halves)
}
