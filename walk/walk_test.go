package walk_test

import (
	"fmt"
	"math"
	"slices"
	"testing"

	"casement/api"
	"casement/share"
	"casement/walk"
)

const (
	one  = share.One
	most = api.MaxWeight

	left, right, up, down = api.Left, api.Right, api.Up, api.Down
)

func list(l ...int) []int { return l }

// leaf is one of a client that was seen as late as its number says.
func leaf(client int) api.Con { return seen(client, client) }

func seen(client, when int) api.Con {
	return api.Con{Kind: api.Leaf, Weight: one, Client: client, Seen: when}
}

func split(kind int, kids ...api.Con) api.Con {
	return api.Con{Kind: kind, Weight: one, Kids: kids}
}

func h(kids ...api.Con) api.Con       { return split(api.SplitH, kids...) }
func v(kids ...api.Con) api.Con       { return split(api.SplitV, kids...) }
func tabbed(kids ...api.Con) api.Con  { return split(api.Tabbed, kids...) }
func stacked(kids ...api.Con) api.Con { return split(api.Stacked, kids...) }

func weight(n int, c api.Con) api.Con {
	c.Weight = n
	return c
}

// row is leaves of the clients from first on.
func row(first, count int) []api.Con {
	var l []api.Con
	for client := first; client < first+count; client++ {
		l = append(l, leaf(client))
	}
	return l
}

// deep is a container within so many splits that have nothing else.
func deep(splits, kind int, c api.Con) api.Con {
	for range splits {
		c = split(kind, c)
	}
	return c
}

func text(c api.Con) string { return fmt.Sprint(c) }

func alike(a, b api.Con) bool {
	same := a.Kind == b.Kind && a.Weight == b.Weight && a.Client == b.Client && a.Seen == b.Seen
	return same && slices.EqualFunc(a.Kids, b.Kids, alike)
}

func isNone(c api.Con) bool {
	return c.Kind == 0 && c.Weight == 0 && c.Client == 0 && c.Seen == 0 && len(c.Kids) == 0
}

func directions() []int { return list(1, 2, 3, 4) }

func noDirections() []int { return list(0, -1, 5, 6, math.MinInt, math.MaxInt) }

func splitKinds() []int { return list(api.SplitH, api.SplitV, api.Tabbed, api.Stacked) }

// lies is what the chapter's words say: which kinds lie along which directions.
func lies(kind, dir int) bool {
	return map[[2]int]bool{
		{api.SplitH, left}: true, {api.SplitH, right}: true, {api.Tabbed, left}: true, {api.Tabbed, right}: true,
		{api.SplitV, up}: true, {api.SplitV, down}: true, {api.Stacked, up}: true, {api.Stacked, down}: true,
	}[[2]int{kind, dir}]
}

// goes holds Next's answer against a client, or, with 0, against ErrMove.
func goes(t *testing.T, c api.Con, client, dir, want int) {
	t.Helper()
	e := api.OK
	if want == 0 {
		e = api.ErrMove
	}
	if got, err := walk.Next(c, client, dir); got != want || err != e {
		t.Errorf("Next(%v, %d, %d) = %d, %d, not %d, %d", c, client, dir, got, err, want, e)
	}
}

// TestExamples are the chapter's own.
func TestExamples(t *testing.T) {
	c := h(seen(1, 1), v(seen(2, 2), seen(3, 3)))
	goes(t, c, 1, right, 3)
	goes(t, c, 2, left, 1)
	got, e := walk.Move(c, 3, up)
	became(t, "Move(3, Up)", got, e, h(seen(1, 1), v(seen(3, 3), seen(2, 2))))
	got, e = walk.Move(c, 2, right)
	became(t, "Move(2, Right)", got, e, h(seen(1, 1), seen(3, 3), seen(2, 2)))
}

// TestNextBeside: in one split, of each kind, each way; at its ends nobody is beside.
func TestNextBeside(t *testing.T) {
	for _, kind := range splitKinds() {
		for _, dir := range directions() {
			step := 1
			if dir == left || dir == up {
				step = -1
			}
			for client := 1; client <= 4; client++ {
				want := client + step
				if !lies(kind, dir) || want == 5 {
					want = 0
				}
				goes(t, split(kind, row(1, 4)...), client, dir, want)
			}
			goes(t, split(kind, leaf(7)), 7, dir, 0)
		}
	}
}

// TestNextAround: the nearest of what is around a leaf that has one beside it that way.
func TestNextAround(t *testing.T) {
	c := h(leaf(1), v(leaf(2), tabbed(leaf(3), stacked(leaf(4), leaf(5), leaf(6)), leaf(7)), leaf(8)), leaf(9))
	for _, x := range []struct{ client, left, right, up, down int }{
		{1, 0, 8, 0, 0}, {2, 1, 9, 0, 7}, {3, 1, 6, 2, 8}, {4, 3, 7, 2, 5}, {5, 3, 7, 4, 6}, {6, 3, 7, 5, 8}, {7, 6, 9, 2, 8}, {8, 1, 9, 7, 0}, {9, 8, 0, 0, 0},
	} {
		goes(t, c, x.client, left, x.left)
		goes(t, c, x.client, right, x.right)
		goes(t, c, x.client, up, x.up)
		goes(t, c, x.client, down, x.down)
	}
}

// TestNextWithoutOthers: a split that lies along, but has nobody else, is gone past.
func TestNextWithoutOthers(t *testing.T) {
	c := h(leaf(1), h(v(h(leaf(2)))), leaf(3))
	goes(t, c, 2, left, 1)
	goes(t, c, 2, right, 3)
	goes(t, c, 2, up, 0)
	goes(t, c, 2, down, 0)
	for _, kind := range splitKinds() {
		for _, dir := range directions() {
			goes(t, deep(8, kind, leaf(5)), 5, dir, 0)
			between := split(kind, leaf(6), deep(7, api.SplitH, leaf(5)), leaf(7))
			switch {
			case !lies(kind, dir):
				goes(t, between, 5, dir, 0)
			case dir == left || dir == up:
				goes(t, between, 5, dir, 6)
			default:
				goes(t, between, 5, dir, 7)
			}
		}
	}
}

// TestNextLastSeen: in what stands beside, whatever its kind, and however deep, the client that was seen last, of several the first.
func TestNextLastSeen(t *testing.T) {
	for _, x := range []struct {
		beside api.Con
		want   int
	}{
		{seen(5, 0), 5}, {v(seen(5, 0)), 5}, {h(seen(5, 0), seen(6, 0)), 5}, {v(seen(5, 1), seen(6, 2)), 6}, {tabbed(seen(5, 2), seen(6, 1)), 5}, {stacked(seen(5, 1), seen(6, 3), seen(7, 3)), 6},
		{v(seen(5, 4), h(seen(6, 5), tabbed(seen(7, 9), seen(8, 9)), seen(9, 8))), 7}, {h(v(seen(5, 1), seen(6, 2)), v(seen(7, 0), seen(8, 2))), 6}, {v(seen(5, math.MaxInt-1), h(seen(6, math.MaxInt))), 6},
		{deep(7, api.SplitV, seen(5, 3)), 5}, {deep(6, api.Tabbed, h(seen(5, 3), seen(6, 4))), 6}, {v(row(5, 64)...), 68}, {h(v(row(5, 63)...), v(row(68, 63)...)), 130},
		{seen(math.MaxInt, math.MaxInt), math.MaxInt},
	} {
		goes(t, h(x.beside, seen(1, 99)), 1, left, x.want)
		goes(t, tabbed(seen(1, 99), x.beside), 1, right, x.want)
		goes(t, v(x.beside, seen(1, 99), seen(2, 200)), 1, up, x.want)
		goes(t, stacked(seen(2, 200), seen(1, 99), x.beside), 1, down, x.want)
	}
	goes(t, v(h(v(seen(2, 3), seen(3, 4)), v(h(leaf(1))))), 1, left, 3)
}

// TestNextSeenElsewhere: who was seen last further on, or in what the leaf is in, does not matter.
func TestNextSeenElsewhere(t *testing.T) {
	c := h(seen(1, 90), seen(2, 1), seen(3, 5), seen(4, 0), seen(5, 80))
	goes(t, c, 3, left, 2)
	goes(t, c, 3, right, 4)
	goes(t, h(v(seen(1, 1), seen(2, 70)), seen(3, 2)), 1, right, 3)
	goes(t, h(v(seen(1, 1), seen(2, 70)), v(seen(3, 2), seen(4, 3))), 2, right, 4)
}

// TestNextAtTheBounds: as many as there may be, beside each other, and in each other.
func TestNextAtTheBounds(t *testing.T) {
	c := h(v(row(1, 64)...), v(row(65, 64)...))
	goes(t, c, 1, right, 128)
	goes(t, c, 64, right, 128)
	goes(t, c, 128, left, 64)
	goes(t, c, 127, down, 128)
	goes(t, c, 128, down, 0)
	goes(t, c, 2, up, 1)
	goes(t, c, 1, up, 0)
	c = h(row(1, 64)...)
	goes(t, c, 63, right, 64)
	goes(t, c, 64, right, 0)
	c = deep(7, api.SplitH, v(leaf(1), leaf(2)))
	goes(t, c, 1, down, 2)
	goes(t, c, 2, up, 1)
	goes(t, c, 1, left, 0)
	goes(t, weight(1, h(weight(most, seen(1, 0)), weight(1, seen(math.MaxInt, 0)))), 1, right, math.MaxInt)
}
