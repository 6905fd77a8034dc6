package cons_test

import (
	"fmt"
	"math"
	"slices"
	"testing"

	"casement/api"
	"casement/cons"
	"casement/share"
)

const (
	one  = share.One
	most = api.MaxWeight
)

func list(l ...int) []int { return l }

// leaf is one of a client that was seen as late as its number says.
func leaf(client int) api.Con { return seen(client, client) }

func seen(client, when int) api.Con {
	return api.Con{Kind: api.Leaf, Weight: one, Client: client, Seen: when}
}

func split(kind int, kids ...api.Con) api.Con {
	return api.Con{Kind: kind, Weight: one, Kids: kids}
}

func h(kids ...api.Con) api.Con       { return split(api.SplitH, kids...) }
func v(kids ...api.Con) api.Con       { return split(api.SplitV, kids...) }
func tabbed(kids ...api.Con) api.Con  { return split(api.Tabbed, kids...) }
func stacked(kids ...api.Con) api.Con { return split(api.Stacked, kids...) }

func weight(n int, c api.Con) api.Con {
	c.Weight = n
	return c
}

// row is leaves of the clients from first on.
func row(first, count int) []api.Con {
	var l []api.Con
	for client := first; client < first+count; client++ {
		l = append(l, leaf(client))
	}
	return l
}

// deep is a container within so many splits that have nothing else.
func deep(splits int, c api.Con) api.Con {
	for range splits {
		c = stacked(c)
	}
	return c
}

// text writes a container: nil and empty lists are alike there.
func text(c api.Con) string { return fmt.Sprint(c) }

func alike(a, b api.Con) bool { return text(a) == text(b) }

func isNone(c api.Con) bool {
	return c.Kind == 0 && c.Weight == 0 && c.Client == 0 && c.Seen == 0 && len(c.Kids) == 0
}

func splitKinds() []int { return list(api.SplitH, api.SplitV, api.Tabbed, api.Stacked) }

// noSplits are kinds that no split has.
func noSplits() []int { return list(api.Leaf, -1, 5, 6, math.MinInt, math.MaxInt) }

// trees are ones that may be, plain ones and those at the bounds.
func trees() []api.Con {
	l := []api.Con{
		h(), v(), tabbed(), stacked(), weight(1, h()), weight(most, h()),
		h(leaf(1)), v(seen(1, 0)), tabbed(seen(math.MaxInt, math.MaxInt)), stacked(weight(1, leaf(1)), weight(most, leaf(2))),
		h(leaf(1), v(leaf(2), leaf(3))), h(v(leaf(2), leaf(3)), leaf(1)), h(seen(1, 7), seen(2, 7), seen(3, 7)), h(seen(1, 3), v(seen(2, 9), seen(3, 9)), seen(4, 1)),
		h(leaf(1), weight(5, v(leaf(2))), leaf(3)), h(v(tabbed(stacked(leaf(1))))), h(h(h(leaf(1)), leaf(2)), h(leaf(3), h(leaf(4)))), weight(1, v(weight(most, stacked(weight(2, leaf(9)))))),
		h(row(1, 64)...), h(h(row(1, 64)...), leaf(65)), h(v(row(1, 64)...), v(row(65, 64)...)), h(v(row(1, 64)...), v(row(65, 63)...), leaf(128)),
		deep(8, leaf(1)), deep(7, h(leaf(1), leaf(2))), h(leaf(1), deep(7, leaf(2)), leaf(3)), deep(7, h(row(1, 64)...)), h(deep(6, h(row(1, 64)...)), deep(6, v(row(65, 64)...))),
	}
	var wide []api.Con // 64 splits in the root, of two each: all the leaves that there may be
	for i := range 64 {
		wide = append(wide, v(row(1+2*i, 2)...))
	}
	return append(l, h(wide...))
}

// wrongParts are containers that are wrong wherever they stand.
func wrongParts() []api.Con {
	l := []api.Con{{}, h(v()), h(h(h())), h(leaf(99), v()), h(v(), leaf(99))}
	for _, n := range list(0, -1, most+1, 2*most, math.MinInt, math.MaxInt) {
		l = append(l, weight(n, leaf(98)), weight(n, h(leaf(98))), h(weight(n, leaf(98))), h(weight(n, v(leaf(98)))))
	}
	for _, n := range list(0, -1, -98, math.MinInt) {
		l = append(l, seen(n, 5), h(seen(n, 5)))
	}
	for _, n := range list(-1, -98, math.MinInt) {
		l = append(l, seen(98, n), h(seen(98, n)))
	}
	for _, kind := range noSplits() {
		l = append(l, split(kind, leaf(98)), h(split(kind, leaf(98))))
		if kind != api.Leaf {
			l = append(l, api.Con{Kind: kind, Weight: one, Client: 98})
		}
	}
	for _, kind := range splitKinds() {
		for _, n := range list(1, -1, 98, math.MinInt, math.MaxInt) {
			l = append(l, api.Con{Kind: kind, Weight: one, Client: n, Kids: row(98, 1)}, api.Con{Kind: kind, Weight: one, Seen: n, Kids: row(98, 1)})
		}
	}
	leafWithKids := leaf(98)
	leafWithKids.Kids = row(99, 1)
	return append(l, leafWithKids, h(row(1001, 65)...), h(leaf(98), leaf(98)), h(leaf(98), v(leaf(98))), h(v(leaf(98)), v(leaf(97), leaf(98))), h(seen(98, 1), seen(98, 2)))
}

// endless is a split that has itself as its kid.
func endless(kids int) api.Con {
	c := h(make([]api.Con, kids)...)
	for i := range c.Kids {
		c.Kids[i] = c
	}
	return c
}

// noTrees are containers that are none, each for a reason of its own.
func noTrees() []api.Con {
	l := []api.Con{
		leaf(1), weight(0, h()), weight(-1, h(leaf(1))), weight(most+1, h(leaf(1))), {Kind: api.SplitH}, {Kind: api.SplitH, Weight: one, Client: 1}, {Kind: api.SplitH, Weight: one, Seen: 1},
		{Kind: 5, Weight: one}, {Kind: -1, Weight: one}, {Kind: api.Leaf, Weight: one}, {Kind: api.Leaf, Weight: one, Kids: row(1, 2)}, {Kind: api.Leaf, Weight: one, Client: 1, Kids: row(2, 1)},
		h(v()), h(leaf(1), v(), leaf(2)), h(row(1, 65)...), h(v(row(1, 65)...)), h(v(row(1, 64)...), v(row(65, 64)...), leaf(129)), h(leaf(129), v(row(1, 64)...), v(row(65, 64)...)),
		deep(9, leaf(1)), deep(8, h(leaf(1))), deep(8, h()), h(leaf(1), deep(8, leaf(2))), h(deep(8, leaf(2)), leaf(1)), deep(5000, leaf(1)), h(leaf(1), leaf(2), leaf(1)), h(v(leaf(3), leaf(1)), tabbed(leaf(2), stacked(leaf(1)))),
		endless(1), endless(2), endless(64), h(leaf(1), endless(3)),
	}
	for _, c := range wrongParts() {
		l = append(l, c, h(c), h(leaf(1), c), h(c, leaf(1)), h(leaf(1), v(leaf(2), c), leaf(3)), deep(4, h(leaf(1), c)))
	}
	return l
}

func TestNew(t *testing.T) {
	for _, kind := range append(splitKinds(), noSplits()...) {
		if c := cons.New(kind); !alike(c, api.Con{Kind: kind, Weight: 65536}) {
			t.Errorf("New(%d) = %v", kind, c)
		}
	}
}

func TestCheck(t *testing.T) {
	for _, c := range trees() {
		if e := cons.Check(c); e != api.OK {
			t.Errorf("Check(%v) = %d", c, e)
		}
	}
	for i, c := range noTrees() {
		if e := cons.Check(c); e != api.ErrTree {
			t.Errorf("Check of the wrong one %d = %d", i, e)
		}
	}
	for _, kind := range splitKinds() {
		if e := cons.Check(cons.New(kind)); e != api.OK {
			t.Errorf("Check of a new one = %d", e)
		}
	}
}

// TestCheckEmptyLists: they are as nil, in a leaf and in the root.
func TestCheckEmptyLists(t *testing.T) {
	alone := leaf(1)
	alone.Kids = make([]api.Con, 0, 3)
	if e := cons.Check(h(alone)); e != api.OK {
		t.Errorf("a leaf with an empty list: %d", e)
	}
	if e := cons.Check(h(make([]api.Con, 0, 3)...)); e != api.OK {
		t.Errorf("a root with an empty list: %d", e)
	}
	if e := cons.Check(h(v(make([]api.Con, 0, 3)...))); e != api.ErrTree {
		t.Errorf("a kid with an empty list: %d", e)
	}
}

// TestCheckEndsEarly: lists that stand in one another, each many times, would take for ever to go through.
func TestCheckEndsEarly(t *testing.T) {
	c := leaf(1)
	for range 8 {
		kids := make([]api.Con, 64)
		for i := range kids {
			kids[i] = c
		}
		c = h(kids...)
	}
	if e := cons.Check(c); e != api.ErrTree {
		t.Errorf("Check = %d", e)
	}
}

func TestCopy(t *testing.T) {
	for _, c := range append(trees(), wrongParts()...) {
		if got := cons.Copy(c); !alike(got, c) {
			t.Errorf("Copy(%v) = %v", c, got)
		}
	}
	for _, c := range []api.Con{{}, leaf(3), deep(30, leaf(1)), h(row(1, 300)...), {Kind: -7, Weight: -8, Client: -9, Seen: -10, Kids: []api.Con{{Kind: 11, Kids: row(1, 2)}}}} {
		if got := cons.Copy(c); !alike(got, c) {
			t.Errorf("Copy(%v) = %v", c, got)
		}
	}
}

// TestCopyDeep: as many parts nested in one another as a program may be given.
func TestCopyDeep(t *testing.T) {
	const levels = 1<<16 - 1
	c := cons.Copy(deep(levels, leaf(7)))
	for range levels {
		if len(c.Kids) != 1 || c.Weight != one {
			t.Fatal("something is lost")
		}
		c = c.Kids[0]
	}
	if !alike(c, leaf(7)) {
		t.Errorf("at its end stands %v", c)
	}
}

func TestLeaves(t *testing.T) {
	for _, c := range []struct {
		tree api.Con
		want []int
	}{
		{h(), nil}, {h(leaf(5)), list(5)}, {h(leaf(3), leaf(1), leaf(2)), list(3, 1, 2)}, {h(leaf(9), v(leaf(7), tabbed(leaf(8), leaf(2))), leaf(1)), list(9, 7, 8, 2, 1)},
		{h(v(stacked(leaf(4)), leaf(6)), leaf(5)), list(4, 6, 5)}, {deep(8, leaf(math.MaxInt)), list(math.MaxInt)},
	} {
		if got := cons.Leaves(c.tree); !slices.Equal(got, c.want) {
			t.Errorf("Leaves(%v) = %v, not %v", c.tree, got, c.want)
		}
	}
	if got := cons.Leaves(h(v(row(1, 64)...), v(row(65, 64)...))); len(got) != 128 || got[0] != 1 || got[64] != 65 || got[127] != 128 {
		t.Errorf("Leaves of as many as there may be = %v", got)
	}
}

func TestFind(t *testing.T) {
	tree := h(leaf(9), v(leaf(7), tabbed(leaf(8), leaf(2)), leaf(4)), leaf(1))
	for _, c := range []struct {
		client int
		want   []int
	}{
		{9, list(0)}, {7, list(1, 0)}, {8, list(1, 1, 0)}, {2, list(1, 1, 1)}, {4, list(1, 2)}, {1, list(2)},
	} {
		if got, ok := cons.Find(tree, c.client); !ok || !slices.Equal(got, c.want) {
			t.Errorf("Find(%d) = %v, %v, not %v", c.client, got, ok, c.want)
		}
	}
	for _, client := range list(0, -1, 3, 10, -9, math.MinInt, math.MaxInt) {
		if got, ok := cons.Find(tree, client); ok || len(got) != 0 {
			t.Errorf("Find(%d) = %v, %v", client, got, ok)
		}
		if got, ok := cons.Find(h(), client); ok || len(got) != 0 {
			t.Errorf("Find(%d) in the empty one = %v, %v", client, got, ok)
		}
	}
	if got, ok := cons.Find(deep(8, leaf(6)), 6); !ok || !slices.Equal(got, list(0, 0, 0, 0, 0, 0, 0, 0)) {
		t.Errorf("Find of the deepest = %v, %v", got, ok)
	}
	if got, ok := cons.Find(h(v(row(1, 64)...), v(row(65, 64)...)), 128); !ok || !slices.Equal(got, list(1, 63)) {
		t.Errorf("Find of the last of all = %v, %v", got, ok)
	}
}

func TestTop(t *testing.T) {
	for _, c := range []struct {
		tree api.Con
		want int
	}{
		{h(), 0}, {h(seen(5, 0)), 5}, {h(seen(5, 0), seen(6, 0), seen(7, 0)), 5}, {h(seen(5, 1), seen(6, 3), seen(7, 2)), 6}, {h(seen(5, 1), seen(6, 3), seen(7, 3)), 6}, {h(seen(5, 4), seen(6, 3), seen(7, 4)), 5},
		{h(seen(5, 1), v(seen(6, 2), tabbed(seen(7, 3))), seen(8, 0)), 7}, {h(seen(1, 0), seen(2, 1)), 2}, {h(seen(9, 8), v(seen(3, math.MaxInt), seen(4, math.MaxInt))), 3}, {h(v(seen(3, 5), seen(4, 6)), seen(9, 6)), 4},
	} {
		if got := cons.Top(c.tree); got != c.want {
			t.Errorf("Top(%v) = %d, not %d", c.tree, got, c.want)
		}
	}
}

// TestNoTreeTellsNothing: of what is no tree there are no clients, even where one of them would be found ahead of what is wrong.
func TestNoTreeTellsNothing(t *testing.T) {
	for i, c := range noTrees() {
		if l := cons.Leaves(c); len(l) != 0 {
			t.Errorf("Leaves of the wrong one %d = %v", i, l)
		}
		if top := cons.Top(c); top != 0 {
			t.Errorf("Top of the wrong one %d = %d", i, top)
		}
		for _, client := range list(1, 2, 98, 0, -1) {
			if way, ok := cons.Find(c, client); ok || len(way) != 0 {
				t.Errorf("Find of %d in the wrong one %d = %v, %v", client, i, way, ok)
			}
		}
	}
}
