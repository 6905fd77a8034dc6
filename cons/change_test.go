package cons_test

import (
	"math"
	"slices"
	"testing"

	"casement/api"
	"casement/cons"
)

// became holds what a change told against what it should be: a tree.
func became(t *testing.T, what string, got api.Con, e api.Errno, want api.Con) {
	t.Helper()
	if e != api.OK || !alike(got, want) {
		t.Errorf("%s = %v, %d, not %v", what, got, e, want)
	}
	if cons.Check(got) != api.OK {
		t.Errorf("%s = %v is no tree", what, got)
	}
}

// refused holds an error, with nothing beside it.
func refused(t *testing.T, what string, got api.Con, e, want api.Errno) {
	t.Helper()
	if e != want || !isNone(got) {
		t.Errorf("%s = %v, %d, not %d", what, got, e, want)
	}
}

// TestExample is the chapter's own.
func TestExample(t *testing.T) {
	first := h(leaf(1), leaf(2))
	c, e := cons.Wrap(first, 2, api.SplitV)
	became(t, "Wrap", c, e, h(leaf(1), v(leaf(2))))
	c, e = cons.Insert(c, 2, 3, 3)
	became(t, "Insert", c, e, h(leaf(1), v(leaf(2), leaf(3))))
	c, e = cons.Remove(c, 3)
	became(t, "Remove", c, e, first)
}

func TestInsert(t *testing.T) {
	tree := weight(7, h(weight(3, leaf(1)), weight(4, v(weight(5, leaf(2)), tabbed(leaf(3)), leaf(4))), leaf(5)))
	for _, c := range []struct {
		near int
		want api.Con
	}{
		{0, weight(7, h(weight(3, leaf(1)), weight(4, v(weight(5, leaf(2)), tabbed(leaf(3)), leaf(4))), leaf(5), seen(9, 6)))},
		{1, weight(7, h(weight(3, leaf(1)), seen(9, 6), weight(4, v(weight(5, leaf(2)), tabbed(leaf(3)), leaf(4))), leaf(5)))},
		{2, weight(7, h(weight(3, leaf(1)), weight(4, v(weight(5, leaf(2)), seen(9, 6), tabbed(leaf(3)), leaf(4))), leaf(5)))},
		{3, weight(7, h(weight(3, leaf(1)), weight(4, v(weight(5, leaf(2)), tabbed(leaf(3), seen(9, 6)), leaf(4))), leaf(5)))},
		{4, weight(7, h(weight(3, leaf(1)), weight(4, v(weight(5, leaf(2)), tabbed(leaf(3)), leaf(4), seen(9, 6))), leaf(5)))},
		{5, weight(7, h(weight(3, leaf(1)), weight(4, v(weight(5, leaf(2)), tabbed(leaf(3)), leaf(4))), leaf(5), seen(9, 6)))},
	} {
		got, e := cons.Insert(tree, c.near, 9, 6)
		became(t, "Insert", got, e, c.want)
	}
	for _, kind := range splitKinds() {
		got, e := cons.Insert(cons.New(kind), 0, 1, 0)
		became(t, "Insert into an empty one", got, e, split(kind, seen(1, 0)))
		got, e = cons.Insert(got, 1, math.MaxInt, math.MaxInt)
		became(t, "Insert of the greatest numbers", got, e, split(kind, seen(1, 0), seen(math.MaxInt, math.MaxInt)))
	}
}

// TestInsertDeepest: a leaf stands as deep as the one that it stands behind.
func TestInsertDeepest(t *testing.T) {
	got, e := cons.Insert(deep(8, leaf(1)), 1, 2, 2)
	if way, ok := cons.Find(got, 2); e != api.OK || !ok || !slices.Equal(way, list(0, 0, 0, 0, 0, 0, 0, 1)) {
		t.Errorf("Insert 8 below = %v, %d", got, e)
	}
}

// TestInsertLimits: one less than there may be, as many as there may be, and, where one split is full, another one.
func TestInsertLimits(t *testing.T) {
	got, e := cons.Insert(h(row(1, 63)...), 5, 999, 0)
	if e != api.OK || len(got.Kids) != 64 || got.Kids[5].Client != 999 {
		t.Errorf("the last one of a split: %d", e)
	}
	for _, near := range list(0, 1, 32, 64) {
		got, e = cons.Insert(h(row(1, 64)...), near, 999, 0)
		refused(t, "one more of a split", got, e, api.ErrLimit)
	}
	inner := h(leaf(500), v(row(1, 64)...))
	for _, near := range list(1, 32, 64) {
		got, e = cons.Insert(inner, near, 999, 0)
		refused(t, "one more of a split within", got, e, api.ErrLimit)
	}
	for _, near := range list(0, 500) {
		if got, e = cons.Insert(inner, near, 999, 0); e != api.OK || len(got.Kids) != 3 || len(cons.Leaves(got)) != 66 {
			t.Errorf("beside a full split: %d", e)
		}
	}
	outer := h(append(row(1, 63), v(leaf(500)))...)
	got, e = cons.Insert(outer, 0, 999, 0)
	refused(t, "one more of a full root", got, e, api.ErrLimit)
	if got, e = cons.Insert(outer, 500, 999, 0); e != api.OK || len(got.Kids[63].Kids) != 2 {
		t.Errorf("within a full root: %d", e)
	}
	last := h(v(row(1, 64)...), v(row(65, 62)...), leaf(127))
	for _, near := range list(0, 127, 65, 126) {
		got, e = cons.Insert(last, near, 999, 0)
		if e != api.OK || len(cons.Leaves(got)) != 128 || cons.Check(got) != api.OK {
			t.Errorf("the last one of all, behind %d: %d", near, e)
		}
		for _, then := range list(0, 127, 65, 999) {
			more, e := cons.Insert(got, then, 1000, 0)
			refused(t, "one more of all", more, e, api.ErrLimit)
		}
	}
}

func TestRemove(t *testing.T) {
	for _, c := range []struct {
		tree   api.Con
		client int
		want   api.Con
	}{
		// the root stays, whatever it has
		{weight(5, v(leaf(1))), 1, weight(5, v())}, {h(leaf(1), leaf(2)), 1, h(leaf(2))}, {h(leaf(1), leaf(2)), 2, h(leaf(1))}, {h(leaf(1), weight(9, v(leaf(2), leaf(3)))), 1, h(weight(9, v(leaf(2), leaf(3))))},
		{h(leaf(1), weight(4, leaf(2)), leaf(3)), 2, h(leaf(1), leaf(3))}, {h(leaf(1), leaf(2), v(leaf(3))), 1, h(leaf(2), v(leaf(3)))},
		// a split that has two still stays
		{h(weight(8, v(leaf(1), weight(2, leaf(2)), weight(3, leaf(3))))), 1, h(weight(8, v(weight(2, leaf(2)), weight(3, leaf(3)))))}, {h(leaf(4), v(leaf(1), leaf(2), leaf(3)), leaf(5)), 3, h(leaf(4), v(leaf(1), leaf(2)), leaf(5))},
		// one that has none goes, with all around it that had nothing else
		{h(v(leaf(1))), 1, h()}, {h(v(tabbed(stacked(leaf(1))))), 1, h()}, {deep(8, leaf(1)), 1, stacked()}, {h(leaf(2), v(tabbed(leaf(1))), leaf(3)), 1, h(leaf(2), leaf(3))}, {h(leaf(2), v(leaf(1))), 1, h(leaf(2))},
		// of one that has one, that takes its place, with its weight
		{h(weight(9, leaf(1)), weight(8, v(leaf(2), weight(7, leaf(3))))), 2, h(weight(9, leaf(1)), weight(8, leaf(3)))}, {h(weight(8, v(weight(6, leaf(2)), leaf(3))), leaf(1)), 3, h(weight(8, leaf(2)), leaf(1))},
		{h(weight(8, v(leaf(2), weight(7, tabbed(weight(6, leaf(3)), weight(5, leaf(4))))))), 2, h(weight(8, tabbed(weight(6, leaf(3)), weight(5, leaf(4)))))}, {h(weight(8, v(leaf(2), weight(7, h(weight(6, leaf(3))))))), 2, h(weight(8, h(weight(6, leaf(3)))))},
		// and so on, from within
		{h(leaf(1), weight(8, v(weight(7, tabbed(leaf(2), weight(6, leaf(3))))))), 2, h(leaf(1), weight(8, leaf(3)))}, {h(leaf(1), weight(8, v(weight(7, tabbed(leaf(2))), weight(6, leaf(3))))), 2, h(leaf(1), weight(8, leaf(3)))},
		{h(leaf(1), weight(8, v(weight(7, tabbed(leaf(2))), weight(6, leaf(3)), leaf(4)))), 2, h(leaf(1), weight(8, v(weight(6, leaf(3)), leaf(4))))}, {h(weight(8, v(weight(7, tabbed(leaf(2), weight(6, stacked(leaf(3), leaf(4)))))))), 2, h(weight(8, stacked(leaf(3), leaf(4))))},
		{h(weight(8, v(weight(7, tabbed(leaf(2), leaf(3), leaf(4)))))), 2, h(weight(8, tabbed(leaf(3), leaf(4))))}, {h(weight(8, v(leaf(5), weight(7, tabbed(leaf(2), weight(6, leaf(3))))))), 2, h(weight(8, v(leaf(5), weight(7, leaf(3)))))},
		// what is not around it stays, though it has but one
		{h(v(leaf(1), leaf(2), tabbed(leaf(3))), stacked(leaf(4))), 1, h(v(leaf(2), tabbed(leaf(3))), stacked(leaf(4)))}, {h(v(leaf(1), tabbed(h(leaf(3)))), leaf(4)), 1, h(tabbed(h(leaf(3))), leaf(4))},
	} {
		got, e := cons.Remove(c.tree, c.client)
		became(t, "Remove from "+text(c.tree), got, e, c.want)
	}
}

// TestRemoveAll: one by one, from all the leaves that there may be.
func TestRemoveAll(t *testing.T) {
	for _, c := range trees() {
		for client := range slices.Values(cons.Leaves(c)) {
			without, e := cons.Remove(c, client)
			left := slices.DeleteFunc(cons.Leaves(c), func(other int) bool { return other == client })
			if e != api.OK || !slices.Equal(cons.Leaves(without), left) {
				t.Fatalf("Remove(%v, %d) = %v, %d", c, client, without, e)
			}
			c = without
		}
		if len(c.Kids) != 0 || cons.Check(c) != api.OK {
			t.Errorf("without any clients: %v", c)
		}
	}
}

func TestSwap(t *testing.T) {
	tree := h(weight(3, seen(1, 11)), weight(4, v(weight(5, seen(2, 12)), weight(6, seen(3, 13)))), seen(4, 0))
	for _, c := range []struct {
		a, b int
		want api.Con
	}{
		{1, 3, h(weight(3, seen(3, 13)), weight(4, v(weight(5, seen(2, 12)), weight(6, seen(1, 11)))), seen(4, 0))},
		{2, 3, h(weight(3, seen(1, 11)), weight(4, v(weight(5, seen(3, 13)), weight(6, seen(2, 12)))), seen(4, 0))},
		{4, 2, h(weight(3, seen(1, 11)), weight(4, v(weight(5, seen(4, 0)), weight(6, seen(3, 13)))), seen(2, 12))},
	} {
		for _, ab := range [][]int{{c.a, c.b}, {c.b, c.a}} {
			got, e := cons.Swap(tree, ab[0], ab[1])
			became(t, "Swap", got, e, c.want)
			got, e = cons.Swap(got, ab[0], ab[1])
			became(t, "Swap, twice", got, e, tree)
		}
	}
	for client := 1; client <= 4; client++ {
		got, e := cons.Swap(tree, client, client)
		became(t, "Swap with itself", got, e, tree)
	}
}

// TestSwapDeep: two of one split, at each depth that there may be.
func TestSwapDeep(t *testing.T) {
	for splits := range 8 {
		for _, ab := range [][]int{{1, 2}, {2, 1}, {1, 3}, {2, 3}, {3, 2}} {
			kids := row(1, 3)
			kids[ab[0]-1], kids[ab[1]-1] = kids[ab[1]-1], kids[ab[0]-1]
			got, e := cons.Swap(deep(splits, h(row(1, 3)...)), ab[0], ab[1])
			became(t, "Swap", got, e, deep(splits, h(kids...)))
		}
	}
}

func TestWrap(t *testing.T) {
	for _, kind := range splitKinds() {
		for _, c := range []struct {
			tree, want api.Con
		}{
			{h(leaf(1), weight(7, leaf(2)), leaf(3)), h(leaf(1), weight(7, split(kind, leaf(2))), leaf(3))},
			{h(weight(7, leaf(2)), v(leaf(1))), h(weight(7, split(kind, leaf(2))), v(leaf(1)))},
			{h(leaf(1), v(leaf(3), weight(1, seen(2, 0)))), h(leaf(1), v(leaf(3), weight(1, split(kind, seen(2, 0)))))},
			// alone, in the root or in another split: its weight stays, and so does its split's
			{weight(5, h(weight(7, leaf(2)))), weight(5, split(kind, weight(7, leaf(2))))}, {h(leaf(1), weight(5, v(weight(7, leaf(2))))), h(leaf(1), weight(5, split(kind, weight(7, leaf(2)))))},
			{h(v(tabbed(leaf(2)))), h(v(split(kind, leaf(2))))},
		} {
			got, e := cons.Wrap(c.tree, 2, kind)
			became(t, "Wrap in "+text(c.tree), got, e, c.want)
		}
	}
}

// TestWrapDeep: a leaf that is 8 below the root has no room for a split around it, but may turn one that it has alone.
func TestWrapDeep(t *testing.T) {
	for _, kind := range splitKinds() {
		got, e := cons.Wrap(deep(6, h(leaf(1), weight(7, leaf(2)))), 2, kind)
		became(t, "Wrap 7 below", got, e, deep(6, h(leaf(1), weight(7, split(kind, leaf(2))))))
		for _, c := range []api.Con{deep(7, h(leaf(1), leaf(2))), deep(7, h(leaf(2), leaf(1))), h(leaf(3), deep(6, v(leaf(1), leaf(2), leaf(4))))} {
			got, e := cons.Wrap(c, 2, kind)
			refused(t, "Wrap 8 below", got, e, api.ErrLimit)
		}
		got, e = cons.Wrap(deep(8, weight(7, leaf(2))), 2, kind)
		became(t, "Wrap of one alone 8 below", got, e, deep(7, split(kind, weight(7, leaf(2)))))
	}
}

func TestTurn(t *testing.T) {
	tree := weight(5, h(leaf(1), weight(6, v(leaf(2), weight(7, tabbed(leaf(3))))), leaf(4)))
	for _, kind := range splitKinds() {
		for _, c := range []struct {
			client int
			want   api.Con
		}{
			{1, weight(5, split(kind, leaf(1), weight(6, v(leaf(2), weight(7, tabbed(leaf(3))))), leaf(4)))}, {4, weight(5, split(kind, leaf(1), weight(6, v(leaf(2), weight(7, tabbed(leaf(3))))), leaf(4)))},
			{2, weight(5, h(leaf(1), weight(6, split(kind, leaf(2), weight(7, tabbed(leaf(3))))), leaf(4)))}, {3, weight(5, h(leaf(1), weight(6, v(leaf(2), weight(7, split(kind, leaf(3))))), leaf(4)))},
		} {
			got, e := cons.Turn(tree, c.client, kind)
			became(t, "Turn", got, e, c.want)
		}
		if got, e := cons.Turn(deep(7, h(leaf(1), leaf(2))), 2, kind); e != api.OK || !alike(got, deep(7, split(kind, leaf(1), leaf(2)))) {
			t.Errorf("Turn 8 below = %v, %d", got, e)
		}
	}
}

func TestTouch(t *testing.T) {
	tree := h(weight(3, seen(1, 5)), v(seen(2, 6), weight(4, seen(3, 7))))
	for _, when := range list(0, 1, 99, math.MaxInt) {
		got, e := cons.Touch(tree, 1, when)
		became(t, "Touch", got, e, h(weight(3, seen(1, when)), v(seen(2, 6), weight(4, seen(3, 7)))))
		got, e = cons.Touch(tree, 3, when)
		became(t, "Touch within", got, e, h(weight(3, seen(1, 5)), v(seen(2, 6), weight(4, seen(3, when)))))
	}
	got, e := cons.Touch(tree, 2, 99)
	if e != api.OK || cons.Top(got) != 2 {
		t.Errorf("the one that was touched is not the top: %v, %d", got, e)
	}
}

func TestGrow(t *testing.T) {
	tree := h(leaf(1), weight(2*one, v(leaf(2), weight(one/2, tabbed(leaf(3), weight(7, h(leaf(4), leaf(5))))))), v(h(leaf(6))))
	for _, c := range []struct {
		client, kind int
		by           float64
		want         api.Con
	}{
		// itself
		{1, api.SplitH, 0.5, h(weight(one+one/2, leaf(1)), tree.Kids[1], tree.Kids[2])},
		{2, api.SplitV, -0.25, h(leaf(1), weight(2*one, v(weight(one-one/4, leaf(2)), tree.Kids[1].Kids[1])), tree.Kids[2])},
		{4, api.SplitH, 1, h(leaf(1), weight(2*one, v(leaf(2), weight(one/2, tabbed(leaf(3), weight(7, h(weight(2*one, leaf(4)), leaf(5))))))), tree.Kids[2])},
		// what is around it: a split of another kind is gone by, and so is one of tabs
		{2, api.SplitH, 1, h(leaf(1), weight(3*one, tree.Kids[1]), tree.Kids[2])}, {3, api.SplitH, -1, h(leaf(1), weight(one, tree.Kids[1]), tree.Kids[2])},
		{3, api.SplitV, 1, h(leaf(1), weight(2*one, v(leaf(2), weight(one+one/2, tree.Kids[1].Kids[1]))), tree.Kids[2])}, {5, api.SplitV, 1, h(leaf(1), weight(2*one, v(leaf(2), weight(one+one/2, tree.Kids[1].Kids[1]))), tree.Kids[2])},
		// one of that kind that has nothing else is gone by, too
		{6, api.SplitH, 2, h(leaf(1), tree.Kids[1], weight(3*one, tree.Kids[2]))},
		// as share.Grow has it at its edges
		{1, api.SplitH, math.NaN(), tree}, {1, api.SplitH, 0, tree}, {1, api.SplitH, math.Copysign(0, -1), tree}, {1, api.SplitH, 1e-17, tree}, {1, api.SplitH, math.Inf(1), h(weight(most, leaf(1)), tree.Kids[1], tree.Kids[2])},
		{1, api.SplitH, math.Inf(-1), h(weight(1, leaf(1)), tree.Kids[1], tree.Kids[2])}, {1, api.SplitH, 15, h(weight(most, leaf(1)), tree.Kids[1], tree.Kids[2])}, {1, api.SplitH, 99, h(weight(most, leaf(1)), tree.Kids[1], tree.Kids[2])},
		{1, api.SplitH, -1, h(weight(1, leaf(1)), tree.Kids[1], tree.Kids[2])}, {1, api.SplitH, -99, h(weight(1, leaf(1)), tree.Kids[1], tree.Kids[2])}, {1, api.SplitH, 0.1, h(weight(72089, leaf(1)), tree.Kids[1], tree.Kids[2])},
	} {
		got, e := cons.Grow(tree, c.client, c.kind, c.by)
		became(t, "Grow", got, e, c.want)
	}
}

// TestGrowMoves: where nothing around a client stands beside another that way, it can't grow, by whatever.
func TestGrowMoves(t *testing.T) {
	for _, c := range []struct {
		tree api.Con
		kind int
	}{
		{h(leaf(1)), api.SplitH}, {h(leaf(1), leaf(2)), api.SplitV}, {v(leaf(1), leaf(2)), api.SplitH}, {tabbed(leaf(1), leaf(2)), api.SplitH}, {tabbed(leaf(1), leaf(2)), api.SplitV}, {stacked(leaf(1), leaf(2)), api.SplitV},
		{stacked(leaf(1), leaf(2)), api.SplitH}, {h(h(h(leaf(1)))), api.SplitH}, {h(v(leaf(1), h(leaf(2), leaf(3)))), api.SplitH}, {tabbed(stacked(leaf(1), leaf(2)), h(leaf(3), v(leaf(4), leaf(5)))), api.SplitV},
	} {
		for _, by := range []float64{0, 1, -1, math.NaN(), math.Inf(1), math.Inf(-1)} {
			got, e := cons.Grow(c.tree, 1, c.kind, by)
			refused(t, "Grow in "+text(c.tree), got, e, api.ErrMove)
		}
	}
}
