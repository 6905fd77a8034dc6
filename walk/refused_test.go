package walk_test

import (
	"math"
	"testing"

	"casement/api"
	"casement/cons"
	"casement/walk"
)

func noClients() []int { return list(0, -1, 777, math.MinInt, math.MaxInt) }

// endless is a split that has itself as its kid.
func endless(kids int) api.Con {
	c := h(make([]api.Con, kids)...)
	for i := range c.Kids {
		c.Kids[i] = c
	}
	return c
}

// noTrees are containers that are none, those among them, too, that are too deep to be written out, or have themselves.
func noTrees() []api.Con {
	return append(broken(), deep(5000, api.Tabbed, leaf(1)), endless(1), endless(2), endless(64), h(leaf(1), leaf(2), endless(3)))
}

// broken are containers that are no trees, each for a reason of its own; in many of them the client 1 has somebody beside it all the same.
func broken() []api.Con {
	return []api.Con{
		{}, leaf(1), {Kind: api.SplitH}, weight(0, h(leaf(1), leaf(2))), weight(-1, h(leaf(1), leaf(2))), weight(most+1, v(leaf(1), leaf(2))), split(5, leaf(1), leaf(2)), split(-1, leaf(1), leaf(2)), split(api.Leaf, leaf(1), leaf(2)),
		{Kind: api.SplitH, Weight: one, Client: 1, Kids: row(1, 2)}, {Kind: api.SplitV, Weight: one, Seen: 1, Kids: row(1, 2)},
		h(leaf(1), leaf(1)), h(leaf(1), v(leaf(2), leaf(1))), h(leaf(1), leaf(2), v(leaf(3), leaf(3))), h(leaf(1), leaf(2), seen(0, 0)), h(leaf(1), leaf(2), seen(-3, 0)), h(leaf(1), seen(2, -1)), h(leaf(1), leaf(2), h()), v(leaf(1), leaf(2), h(v())),
		h(leaf(1), weight(0, leaf(2))), h(weight(most+1, leaf(1)), leaf(2)), h(leaf(1), weight(-5, v(leaf(2)))), h(leaf(1), split(5, leaf(2))), h(leaf(1), api.Con{Kind: api.Leaf, Weight: one, Client: 2, Kids: row(3, 1)}),
		h(row(1, 65)...), v(leaf(1), h(row(2, 65)...)), h(v(row(1, 64)...), v(row(65, 64)...), leaf(129)), deep(9, api.SplitH, leaf(1)), deep(8, api.SplitV, h(leaf(1), leaf(2))), h(leaf(1), deep(8, api.SplitH, leaf(2))),
	}
}

// trees are ones that may be: in each of them 1 has somebody beside it to no side, or to one, or to more.
func trees() []api.Con {
	return []api.Con{
		h(leaf(1)), v(leaf(1)), h(leaf(1), leaf(2)), v(leaf(2), leaf(1)), tabbed(leaf(2), leaf(1), leaf(3)), stacked(leaf(2), leaf(1), v(leaf(3), leaf(4))), h(leaf(5), v(leaf(2), tabbed(leaf(1), leaf(3))), leaf(4)),
		deep(8, api.SplitV, leaf(1)), h(row(1, 64)...), h(leaf(1), v(row(2, 64)...)), h(v(row(1, 64)...), v(row(65, 64)...)), v(append(row(2, 63), h(leaf(1)))...),
	}
}

// both does both calls; what is told of a client is held to be none with an error.
func both(t *testing.T, what string, c api.Con, client, dir int, want api.Errno) {
	t.Helper()
	got, e := walk.Move(c, client, dir)
	refused(t, "Move"+what, got, e, want)
	if next, e := walk.Next(c, client, dir); next != 0 || e != want {
		t.Errorf("Next%s = %d, %d, not %d", what, next, e, want)
	}
}

// TestFirstError: what is no direction is told ahead of what is no tree, that ahead of a client that isn't there.
func TestFirstError(t *testing.T) {
	clients := append(noClients(), 1, 2, 3)
	for _, dir := range noDirections() {
		for _, c := range append(noTrees(), append(trees(), h(), v())...) {
			for _, client := range clients {
				both(t, " in no direction", c, client, dir, api.ErrArg)
			}
		}
	}
	for _, dir := range directions() {
		for _, c := range noTrees() {
			for _, client := range clients {
				both(t, " in no tree", c, client, dir, api.ErrTree)
			}
		}
		for _, c := range append(trees(), h(), v(), tabbed(), stacked()) {
			for _, client := range noClients() {
				both(t, " of none", c, client, dir, api.ErrNone)
			}
		}
	}
}

// TestEmptyLists are as nil, in a leaf and in the root.
func TestEmptyLists(t *testing.T) {
	alone := leaf(1)
	alone.Kids = make([]api.Con, 0, 3)
	both(t, " in an empty one", h(make([]api.Con, 0, 3)...), 1, left, api.ErrNone)
	goes(t, h(alone, leaf(2)), 1, right, 2)
	goes(t, h(leaf(2), alone), 2, right, 1)
	moved{h(leaf(2), alone), 2, right, h(leaf(1), leaf(2))}.hold(t)
	moved{h(v(alone)), 1, right, h(leaf(1))}.hold(t)
	both(t, " of a kid with an empty list", h(leaf(1), v(make([]api.Con, 0, 3)...)), 1, right, api.ErrTree)
}

// roomy is a container in which each list has spare room, where something is written.
func roomy(c api.Con) api.Con {
	kids := make([]api.Con, 0, len(c.Kids)+3)
	for _, kid := range c.Kids {
		kids = append(kids, roomy(kid))
	}
	spare := kids[len(kids):cap(kids)]
	for i := range spare {
		spare[i] = api.Con{Weight: -77 - i}
	}
	c.Kids = kids
	return c
}

// wholeText writes a container with the spare room of its lists.
func wholeText(c api.Con) string {
	s := text(api.Con{Kind: c.Kind, Weight: c.Weight, Client: c.Client, Seen: c.Seen}) + "("
	for _, kid := range c.Kids[:cap(c.Kids)] {
		s += wholeText(kid)
	}
	return s + ")"
}

// places lists where all that a container's lists have stands, their spare room, too.
func places(c api.Con) []*api.Con {
	var l []*api.Con
	kids := c.Kids[:cap(c.Kids)]
	for i := range kids {
		l = append(l, &kids[i])
		l = append(l, places(kids[i])...)
	}
	return l
}

// distinct fails where two lists of what is given share memory.
func distinct(t *testing.T, what string, l ...api.Con) {
	t.Helper()
	taken := map[*api.Con]bool{}
	for _, c := range l {
		for _, p := range places(c) {
			if taken[p] {
				t.Fatalf("%s: memory is shared", what)
			}
			taken[p] = true
		}
	}
}

// TestMemory: what is handed in stays as it is, its spare room, too, and what is told shares no memory with it, nor with another answer.
func TestMemory(t *testing.T) {
	l := append(trees(), h(leaf(1), v(leaf(2), leaf(3), h(leaf(6), leaf(7))), tabbed(leaf(4), leaf(5))), h(v(leaf(1)), v(leaf(2)), v(tabbed(leaf(3)), leaf(5))), h(v(leaf(1), stacked(tabbed(leaf(2), leaf(3)), h(leaf(4))))))
	for _, c := range append(l, broken()...) {
		c = roomy(c)
		before := wholeText(c)
		for _, client := range list(1, 2, 3, 4, 5, 6, 7, 64, 65, 128, 0) {
			for _, dir := range list(left, right, up, down, 5) {
				one, e := walk.Move(c, client, dir)
				two, again := walk.Move(c, client, dir)
				if e != again || !alike(one, two) {
					t.Errorf("Move: %v, %d, and then %v, %d", one, e, two, again)
				}
				distinct(t, "Move", c, one, two)
				next, e := walk.Next(c, client, dir)
				if other, again := walk.Next(c, client, dir); other != next || again != e {
					t.Errorf("Next: %d, %d, and then %d, %d", next, e, other, again)
				}
			}
		}
		if wholeText(c) != before {
			t.Fatal("what was given is changed")
		}
	}
}

// TestMemoryOfSharedLists: one list with spare room has the kids of two splits, as a part of it and as all of it.
func TestMemoryOfSharedLists(t *testing.T) {
	list := []api.Con{v(leaf(1), leaf(2)), leaf(3), leaf(4), leaf(5)}
	c := h(split(api.Tabbed, list[:2]...), split(api.Stacked, list[2:3]...), leaf(6))
	before := text(c) + text(h(list...))
	for _, client := range cons.Leaves(c) {
		for _, dir := range directions() {
			got, _ := walk.Move(c, client, dir)
			distinct(t, "Move", got)
			for _, p := range places(got) {
				*p = api.Con{}
			}
			if text(c)+text(h(list...)) != before {
				t.Fatalf("what was given is changed: Move of %d, %d", client, dir)
			}
		}
	}
}
