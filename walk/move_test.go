package walk_test

import (
	"math"
	"slices"
	"testing"

	"casement/api"
	"casement/cons"
	"casement/walk"
)

// became holds what a move told against what it should be: a tree.
func became(t *testing.T, what string, got api.Con, e api.Errno, want api.Con) {
	t.Helper()
	if e != api.OK || !alike(got, want) {
		t.Errorf("%s = %v, %d, not %v", what, got, e, want)
	}
	if cons.Check(got) != api.OK {
		t.Errorf("%s = %v is no tree", what, got)
	}
}

// refused holds an error, with nothing beside it.
func refused(t *testing.T, what string, got api.Con, e, want api.Errno) {
	t.Helper()
	if e != want || !isNone(got) {
		t.Errorf("%s = %v, %d, not %d", what, got, e, want)
	}
}

// moved is a move, and the tree that it makes.
type moved struct {
	tree        api.Con
	client, dir int
	want        api.Con
}

func (m moved) hold(t *testing.T) {
	t.Helper()
	got, e := walk.Move(m.tree, m.client, m.dir)
	became(t, "Move of "+text(m.tree), got, e, m.want)
}

// TestMoveExchanges: with a leaf beside it, both change their places, and take their weights, and when they were seen, along.
func TestMoveExchanges(t *testing.T) {
	a, b, c := weight(3, seen(1, 11)), weight(4, seen(2, 12)), weight(5, seen(3, 0))
	for _, kind := range splitKinds() {
		for _, dir := range directions() {
			if !lies(kind, dir) {
				continue
			}
			back, on := 1, 3
			first, last := split(kind, b, a, c), split(kind, a, c, b)
			if dir == left || dir == up {
				moved{split(kind, a, b, c), 2, dir, first}.hold(t)
				moved{split(kind, a, b, c), on, dir, last}.hold(t)
				continue
			}
			moved{split(kind, a, b, c), 2, dir, last}.hold(t)
			moved{split(kind, a, b, c), back, dir, first}.hold(t)
		}
	}
	around := func(l ...api.Con) api.Con { return weight(9, v(leaf(7), weight(8, tabbed(l...)), h(leaf(8)))) }
	moved{around(a, b, c), 2, left, around(b, a, c)}.hold(t)
	moved{around(a, b, c), 2, right, around(a, c, b)}.hold(t)
}

// TestMoveExchangesAtTheBounds: at the end of a full split, in a full tree, as deep as may be.
func TestMoveExchangesAtTheBounds(t *testing.T) {
	full := row(1, 64)
	last := slices.Clone(full)
	last[62], last[63] = last[63], last[62]
	moved{h(full...), 63, right, h(last...)}.hold(t)
	moved{h(full...), 64, left, h(last...)}.hold(t)
	moved{h(v(full...), v(row(65, 64)...)), 64, up, h(v(last...), v(row(65, 64)...))}.hold(t)
	moved{deep(7, api.SplitV, h(leaf(1), leaf(2))), 1, right, deep(7, api.SplitV, h(leaf(2), leaf(1)))}.hold(t)
	most := h(weight(1, seen(1, 0)), weight(most, seen(math.MaxInt, math.MaxInt)))
	moved{most, 1, right, h(most.Kids[1], most.Kids[0])}.hold(t)
}

// TestMoveInto a split beside it: behind the client seen last there, with the usual weight.
func TestMoveInto(t *testing.T) {
	m := weight(7, seen(1, 40)) // who is moved
	n := seen(1, 40)            // what becomes of it
	for _, x := range []moved{
		{h(m, v(leaf(2), leaf(3))), 1, right, h(v(leaf(2), leaf(3), n))},
		{h(m, weight(6, v(weight(5, seen(2, 9)), weight(4, seen(3, 9))))), 1, right, h(weight(6, v(weight(5, seen(2, 9)), n, weight(4, seen(3, 9)))))},
		{h(v(seen(2, 0), seen(3, 0)), m), 1, left, h(v(seen(2, 0), n, seen(3, 0)))},
		{v(leaf(5), m, h(leaf(2), leaf(3))), 1, down, v(leaf(5), h(leaf(2), leaf(3), n))},
		{v(leaf(5), h(leaf(2), leaf(3)), m, leaf(6)), 1, up, v(leaf(5), h(leaf(2), leaf(3), n), leaf(6))},
		{stacked(m, stacked(leaf(2))), 1, down, stacked(stacked(leaf(2), n))},
		{tabbed(tabbed(seen(3, 9), seen(2, 8)), m), 1, left, tabbed(tabbed(seen(3, 9), n, seen(2, 8)))},
		// in the split of the one seen last, however deep that is
		{h(m, v(leaf(2), h(leaf(3), tabbed(leaf(9), leaf(4)), leaf(5)), leaf(6))), 1, right, h(v(leaf(2), h(leaf(3), tabbed(leaf(9), n, leaf(4)), leaf(5)), leaf(6)))},
		{h(m, deep(7, api.Tabbed, leaf(2))), 1, right, h(deep(6, api.Tabbed, tabbed(leaf(2), n)))},
		// of its own split but one is left: that takes its place, with its weight
		{v(leaf(5), weight(8, h(m, weight(6, v(leaf(2), leaf(3)))))), 1, right, v(leaf(5), weight(8, v(leaf(2), leaf(3), n)))},
		{v(weight(8, h(weight(6, tabbed(leaf(2))), m)), leaf(5)), 1, left, v(weight(8, tabbed(leaf(2), n)), leaf(5))},
		{v(weight(3, v(weight(8, h(weight(6, tabbed(leaf(2))), m))))), 1, left, v(weight(3, tabbed(leaf(2), n)))},
		// the root stays, though it has but one left
		{weight(8, h(m, weight(6, h(leaf(2))))), 1, right, weight(8, h(weight(6, h(leaf(2), n))))},
		// what is not around it stays as it is
		{h(leaf(4), m, v(leaf(2)), v(leaf(3))), 1, right, h(leaf(4), v(leaf(2), n), v(leaf(3)))},
	} {
		x.hold(t)
	}
}

// TestMoveIntoLimit: the split of the one seen last has room, or none.
func TestMoveIntoLimit(t *testing.T) {
	got, e := walk.Move(h(leaf(100), v(row(1, 64)...)), 100, right)
	refused(t, "Move into a full split", got, e, api.ErrLimit)
	got, e = walk.Move(h(tabbed(leaf(5), v(row(10, 64)...)), leaf(4)), 4, left)
	refused(t, "Move into a full split within", got, e, api.ErrLimit)
	moved{h(leaf(100), v(row(1, 63)...)), 100, right, h(v(append(row(1, 63), leaf(100))...))}.hold(t)
	other := append(row(1, 63), leaf(300)) // full as well, but the one within it is the latest
	moved{h(leaf(100), v(append(other[:63:63], h(leaf(300)))...)), 100, right, h(v(append(other[:63:63], h(leaf(300), leaf(100)))...))}.hold(t)
	// all the leaves that there may be, and its own split full
	kids := append(row(1, 63), v(row(100, 63)...))
	got, e = walk.Move(h(kids...), 63, right)
	became(t, "Move from a full split", got, e, h(append(row(1, 62), v(append(row(100, 63), leaf(63))...))...))
	got, e = walk.Move(h(v(row(1, 64)...), leaf(500), v(row(65, 63)...)), 500, right)
	became(t, "Move within a full tree", got, e, h(v(row(1, 64)...), v(append(row(65, 63), leaf(500))...)))
}

// TestMoveOut of a split that does not lie along, or where nobody is beside it: beside what it was in.
func TestMoveOut(t *testing.T) {
	m := weight(7, seen(1, 40))
	n := seen(1, 40)
	for _, x := range []moved{
		// its split has others still
		{h(weight(6, v(weight(5, m), weight(4, leaf(2)), leaf(3)))), 1, left, h(n, weight(6, v(weight(4, leaf(2)), leaf(3))))},
		{h(weight(6, v(weight(4, leaf(2)), m, leaf(3)))), 1, right, h(weight(6, v(weight(4, leaf(2)), leaf(3))), n)},
		{v(leaf(8), tabbed(leaf(2), leaf(3), m), leaf(9)), 1, up, v(leaf(8), n, tabbed(leaf(2), leaf(3)), leaf(9))},
		{v(leaf(8), h(leaf(2), leaf(3), m), leaf(9)), 1, down, v(leaf(8), h(leaf(2), leaf(3)), n, leaf(9))},
		{stacked(tabbed(leaf(2), leaf(3), m), leaf(9)), 1, down, stacked(tabbed(leaf(2), leaf(3)), n, leaf(9))},
		{tabbed(leaf(9), v(leaf(2), leaf(3), m)), 1, left, tabbed(leaf(9), n, v(leaf(2), leaf(3)))},
		// but one is left: that has its split's place and weight
		{h(leaf(8), weight(6, v(m, weight(4, leaf(2)))), leaf(9)), 1, left, h(leaf(8), n, weight(6, leaf(2)), leaf(9))},
		{h(leaf(8), weight(6, v(m, weight(4, tabbed(leaf(2), leaf(3))))), leaf(9)), 1, right, h(leaf(8), weight(6, tabbed(leaf(2), leaf(3))), n, leaf(9))},
		// nobody is left
		{h(leaf(8), weight(6, v(m)), leaf(9)), 1, left, h(leaf(8), n, leaf(9))},
		{h(leaf(8), weight(6, v(m)), leaf(9)), 1, right, h(leaf(8), n, leaf(9))},
		{v(h(m)), 1, up, v(n)},
		{stacked(deep(7, api.Tabbed, m)), 1, down, stacked(n)},
		// its split lies along, too, but it is the last one there
		{h(leaf(8), h(m, leaf(2), leaf(3)), leaf(9)), 1, left, h(leaf(8), n, h(leaf(2), leaf(3)), leaf(9))},
		{tabbed(leaf(8), h(leaf(2), leaf(3), m), leaf(9)), 1, right, tabbed(leaf(8), h(leaf(2), leaf(3)), n, leaf(9))},
		{v(leaf(8), stacked(m, leaf(2), leaf(3))), 1, up, v(leaf(8), n, stacked(leaf(2), leaf(3)))},
		{stacked(v(leaf(2), m), leaf(8)), 1, down, stacked(leaf(2), n, leaf(8))},
	} {
		x.hold(t)
	}
}

// TestMoveOutOfMany: the nearest split around that lies along, whoever is beside there; all between is tidied as by cons.Remove.
func TestMoveOutOfMany(t *testing.T) {
	m := weight(7, seen(1, 40))
	n := seen(1, 40)
	for _, x := range []moved{
		{h(leaf(9), weight(6, v(leaf(8), weight(5, stacked(leaf(7), weight(4, v(leaf(6), leaf(5), m))))))), 1, left, h(leaf(9), n, weight(6, v(leaf(8), weight(5, stacked(leaf(7), weight(4, v(leaf(6), leaf(5))))))))},
		{h(leaf(9), weight(6, v(leaf(8), weight(5, stacked(leaf(7), weight(4, v(leaf(6), m))))))), 1, right, h(leaf(9), weight(6, v(leaf(8), weight(5, stacked(leaf(7), weight(4, leaf(6)))))), n)},
		{h(leaf(9), weight(6, v(weight(5, stacked(weight(4, v(leaf(6), m))))))), 1, right, h(leaf(9), weight(6, leaf(6)), n)},
		{h(leaf(9), weight(6, v(weight(5, stacked(leaf(8), weight(4, v(m))))))), 1, left, h(leaf(9), n, weight(6, leaf(8)))},
		{h(leaf(9), weight(6, v(weight(5, stacked(weight(4, v(m))))))), 1, right, h(leaf(9), n)},
		{h(leaf(9), weight(6, v(leaf(8), weight(5, stacked(weight(4, v(m))))))), 1, right, h(leaf(9), weight(6, leaf(8)), n)},
		// the nearest one, though nobody is beside there, and further out somebody is
		{h(leaf(9), v(tabbed(leaf(8), v(leaf(2), leaf(3), m))), leaf(7)), 1, right, h(leaf(9), v(tabbed(leaf(8), v(leaf(2), leaf(3)), n)), leaf(7))},
		{h(leaf(9), v(tabbed(v(leaf(2), leaf(3), m))), leaf(7)), 1, left, h(leaf(9), v(tabbed(n, v(leaf(2), leaf(3)))), leaf(7))},
		// what it comes into stays as it is, and what is around that, too
		{v(h(v(m))), 1, left, v(h(n))}, {v(weight(6, h(v(m, leaf(2))))), 1, right, v(weight(6, h(leaf(2), n)))}, {v(tabbed(h(stacked(v(m))))), 1, right, v(tabbed(h(n)))},
		{h(v(h(v(m)))), 1, left, h(v(h(n)))},
		// what is not around it stays, though it has but one
		{h(v(leaf(2)), v(leaf(3), h(leaf(4)), m)), 1, left, h(v(leaf(2)), n, v(leaf(3), h(leaf(4))))}, {h(v(h(leaf(4)), m), v(leaf(2))), 1, right, h(h(leaf(4)), n, v(leaf(2)))},
	} {
		x.hold(t)
	}
}

// TestMoveOutErrors: none lies along, or the first that does is full, even where the leaf was alone in its kid.
func TestMoveOutErrors(t *testing.T) {
	for _, x := range []struct {
		tree        api.Con
		client, dir int
		want        api.Errno
	}{
		{h(leaf(1), leaf(2)), 1, left, api.ErrMove}, {h(leaf(1), leaf(2)), 2, right, api.ErrMove}, {h(leaf(1), leaf(2)), 1, up, api.ErrMove}, {h(leaf(1), leaf(2)), 1, down, api.ErrMove},
		{v(leaf(1), leaf(2)), 1, up, api.ErrMove}, {v(leaf(1), leaf(2)), 2, down, api.ErrMove}, {v(leaf(1), leaf(2)), 1, left, api.ErrMove}, {v(leaf(1), leaf(2)), 1, right, api.ErrMove},
		{tabbed(leaf(1)), 1, right, api.ErrMove}, {stacked(leaf(1)), 1, down, api.ErrMove}, {v(tabbed(leaf(1), leaf(2))), 2, right, api.ErrMove}, {v(stacked(leaf(3)), h(leaf(1), leaf(2))), 1, left, api.ErrMove},
		{deep(8, api.SplitV, leaf(1)), 1, left, api.ErrMove}, {deep(8, api.Tabbed, leaf(1)), 1, down, api.ErrMove}, {h(row(1, 64)...), 64, right, api.ErrMove}, {h(row(1, 64)...), 5, up, api.ErrMove},
		{h(append(row(2, 63), v(leaf(1), leaf(99)))...), 1, left, api.ErrLimit}, {h(append(row(2, 63), v(leaf(1), leaf(99)))...), 1, right, api.ErrLimit}, {tabbed(append(row(2, 63), stacked(leaf(1)))...), 1, right, api.ErrLimit},
		{v(append(row(2, 63), deep(7, api.SplitH, leaf(1)))...), 1, up, api.ErrLimit}, {stacked(append(row(2, 63), v(leaf(99), leaf(1)))...), 1, down, api.ErrLimit}, {h(v(h(append(row(2, 63), v(leaf(1)))...))), 1, left, api.ErrLimit},
		{h(leaf(99), v(append(row(2, 63), h(leaf(1), leaf(98)))...)), 98, up, api.ErrLimit}, {h(h(append(row(2, 63), v(leaf(1), leaf(98)))...), leaf(99)), 1, right, api.ErrLimit},
	} {
		got, e := walk.Move(x.tree, x.client, x.dir)
		refused(t, "Move of "+text(x.tree), got, e, x.want)
	}
}

// TestMoveOutAtTheBounds: as many kids as there may be behind it, past a full split, from the deepest place, in a full tree.
func TestMoveOutAtTheBounds(t *testing.T) {
	kids := row(2, 62)
	moved{h(append(kids, v(leaf(1), leaf(99)))...), 1, right, h(append(kids[:62:62], leaf(99), leaf(1))...)}.hold(t)
	moved{h(append(kids, v(leaf(1), leaf(99)))...), 1, left, h(append(kids[:62:62], leaf(1), leaf(99))...)}.hold(t)
	past := v(append(row(2, 63), stacked(leaf(1), leaf(99)))...)
	moved{h(past), 99, right, h(v(append(row(2, 63), leaf(1))...), leaf(99))}.hold(t)
	moved{h(deep(6, api.SplitV, stacked(leaf(1), leaf(2)))), 2, left, h(leaf(2), leaf(1))}.hold(t)
	moved{deep(6, api.SplitV, h(v(leaf(1), leaf(2)))), 2, left, deep(6, api.SplitV, h(leaf(2), leaf(1)))}.hold(t)
	moved{h(v(row(1, 64)...), v(row(65, 64)...)), 64, right, h(v(row(1, 63)...), leaf(64), v(row(65, 64)...))}.hold(t)
	moved{h(v(row(1, 64)...), v(row(65, 64)...)), 65, right, h(v(row(1, 64)...), v(row(66, 63)...), leaf(65))}.hold(t)
	least := h(weight(1, v(weight(most, seen(1, 0)), weight(1, seen(2, math.MaxInt)))))
	moved{least, 1, left, h(seen(1, 0), weight(1, seen(2, math.MaxInt)))}.hold(t)
}
