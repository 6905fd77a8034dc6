package walk_test

import (
	"slices"
	"testing"

	"casement/api"
	"casement/cons"
	"casement/walk"
)

// dice gives numbers that are the same each time.
func dice(seed uint32) func(n int) int {
	return func(n int) int {
		seed = seed*1664525 + 1013904223
		return int(seed>>8) % n
	}
}

// node is a container as the chapters' words have it: each knows the split that it is a kid of.
type node struct {
	kind, weight, client, seen int
	up                         *node
	kids                       []*node
}

func nodeOf(c api.Con, up *node) *node {
	n := &node{kind: c.Kind, weight: c.Weight, client: c.Client, seen: c.Seen, up: up}
	for _, kid := range c.Kids {
		n.kids = append(n.kids, nodeOf(kid, n))
	}
	return n
}

func (n *node) con() api.Con {
	c := api.Con{Kind: n.kind, Weight: n.weight, Client: n.client, Seen: n.seen}
	for _, kid := range n.kids {
		c.Kids = append(c.Kids, kid.con())
	}
	return c
}

// leaves lists those of a container, as they stand.
func (n *node) leaves() []*node {
	if n.kind == 0 {
		return []*node{n}
	}
	var l []*node
	for _, kid := range n.kids {
		l = append(l, kid.leaves()...)
	}
	return l
}

// leaf is nil, if the client has none.
func (n *node) leaf(client int) *node {
	for _, l := range n.leaves() {
		if l.client == client {
			return l
		}
	}
	return nil
}

func (n *node) place() int { return slices.Index(n.up.kids, n) }

func (n *node) put(kid *node, i int) {
	kid.up = n
	n.kids = slices.Insert(n.kids, i, kid)
}

func (n *node) takeOut() {
	i := n.place()
	n.up.kids = slices.Delete(n.up.kids, i, i+1)
}

// beside is the one ahead of a kid, or behind it; nil, if there is none.
func (n *node) beside(dir int) *node {
	i := map[int]int{left: -1, up: -1, right: 1, down: 1}[dir] + n.place()
	if i < 0 || i == len(n.up.kids) {
		return nil
	}
	return n.up.kids[i]
}

// lastSeen is the leaf that was seen last, of several the first.
func (n *node) lastSeen() *node {
	var last *node
	for _, l := range n.leaves() {
		if last == nil || l.seen > last.seen {
			last = l
		}
	}
	return last
}

func (n *node) next(client, dir int) (int, api.Errno) {
	for one := n.leaf(client); one.up != nil; one = one.up {
		if lies(one.up.kind, dir) && one.beside(dir) != nil {
			return one.beside(dir).lastSeen().client, api.OK
		}
	}
	return 0, api.ErrMove
}

// tidy goes from a leaf's split, that it was taken out of, up to, but without, one around it: what has no kids goes, and of what has one, that takes its place.
func tidy(from, upTo *node) {
	for one := from; one != upTo; one = one.up {
		outer, i := one.up, one.place()
		if len(one.kids) < 2 {
			one.takeOut()
		}
		if len(one.kids) == 1 {
			one.kids[0].weight = one.weight
			outer.put(one.kids[0], i)
		}
	}
}

func (n *node) move(client, dir int) api.Errno {
	leaf := n.leaf(client)
	other := leaf.beside(dir)
	switch {
	case !lies(leaf.up.kind, dir) || other == nil:
		return leaf.goOut(dir)
	case other.kind == 0:
		i, j := leaf.place(), other.place()
		leaf.up.kids[i], leaf.up.kids[j] = other, leaf
		return api.OK
	}
	near := other.lastSeen()
	if len(near.up.kids) == 64 {
		return api.ErrLimit
	}
	leaf.takeOut()
	tidy(leaf.up, n)
	leaf.weight = 65536
	near.up.put(leaf, near.place()+1)
	return api.OK
}

func (n *node) goOut(dir int) api.Errno {
	for k := n.up; k.up != nil; k = k.up {
		into := k.up
		if !lies(into.kind, dir) {
			continue
		}
		if len(into.kids) == 64 {
			return api.ErrLimit
		}
		n.takeOut()
		i, before := k.place(), len(into.kids)
		tidy(n.up, into)
		if dir == right || dir == down {
			i += 1 + len(into.kids) - before // none is behind a kid that is gone
		}
		n.weight = 65536
		into.put(n, i)
		return api.OK
	}
	return api.ErrMove
}

// grow makes a tree by chance: so deep at most, most of its splits small, and some of one kid alone.
func grow(roll func(int) int, deep, spread int, client *int) api.Con {
	c := api.Con{Kind: roll(4) + 1, Weight: roll(9) + 1}
	for range 1 + roll(spread) {
		switch {
		case deep > 1 && roll(5) < 3:
			if kid := grow(roll, deep-1, spread, client); len(kid.Kids) > 0 {
				c.Kids = append(c.Kids, kid)
			}
		case *client < 128:
			*client++
			c.Kids = append(c.Kids, api.Con{Weight: roll(9) + 1, Client: 129 - *client, Seen: roll(12)})
		}
	}
	return c
}

// asWords holds both calls, of all clients, in all directions, against the chapter's words, and tells how often what came.
func asWords(t *testing.T, c api.Con, count map[api.Errno]int) {
	t.Helper()
	before := cons.Copy(c)
	for _, client := range cons.Leaves(c) {
		for _, dir := range directions() {
			want, wantE := nodeOf(c, nil).next(client, dir)
			next, e := walk.Next(c, client, dir)
			if next != want || e != wantE {
				t.Fatalf("Next(%v, %d, %d) = %d, %d, not %d, %d", c, client, dir, next, e, want, wantE)
			}
			if e == api.OK {
				nextFollows(t, c, client, next)
			}
			n := nodeOf(c, nil)
			wantE = n.move(client, dir)
			got, e := walk.Move(c, client, dir)
			if e != wantE || e == api.OK && !alike(got, n.con()) || e != api.OK && !isNone(got) {
				t.Fatalf("Move(%v, %d, %d) = %v, %d, not %v, %d", c, client, dir, got, e, n.con(), wantE)
			}
			if e == api.OK {
				moveFollows(t, c, client, dir, got)
			}
			count[e]++
		}
	}
	if !alike(c, before) {
		t.Fatalf("%v is changed", before)
	}
}

// nextFollows holds what P12.3 says of Next.
func nextFollows(t *testing.T, c api.Con, client, next int) {
	t.Helper()
	if next == client || !slices.Contains(cons.Leaves(c), next) {
		t.Fatalf("from %d in %v next is %d", client, c, next)
	}
}

// moveFollows holds what P12.3 says of Move.
func moveFollows(t *testing.T, c api.Con, client, dir int, got api.Con) {
	t.Helper()
	clients, then := cons.Leaves(c), cons.Leaves(got)
	slices.Sort(clients)
	slices.Sort(then)
	if cons.Check(got) != api.OK || !slices.Equal(then, clients) {
		t.Fatalf("Move(%v, %d, %d) = %v", c, client, dir, got)
	}
	n := nodeOf(c, nil).leaf(client)
	if other := n.beside(dir); !lies(n.up.kind, dir) || other == nil || other.kind != 0 {
		return
	}
	back := map[int]int{left: right, right: left, up: down, down: up}[dir]
	if again, e := walk.Move(got, client, back); e != api.OK || !alike(again, c) {
		t.Fatalf("Move(%v, %d, %d), and back = %v, %d", c, client, dir, again, e)
	}
}

// TestThrownTrees of all depths and widths.
func TestThrownTrees(t *testing.T) {
	count := map[api.Errno]int{}
	for seed := range uint32(160) {
		roll := dice(seed)
		client := 100 * roll(2) // where it is 100, the tree has few leaves, however deep it is
		c := grow(roll, 1+roll(8), 2+roll(4), &client)
		if cons.Check(c) != api.OK {
			t.Fatalf("%v is no tree", c)
		}
		asWords(t, c, count)
	}
	if count[api.OK] < 1000 || count[api.ErrMove] < 1000 {
		t.Errorf("thrown: %v", count)
	}
}

// TestThrownWide: trees with full splits.
func TestThrownWide(t *testing.T) {
	count := map[api.Errno]int{}
	for seed := range uint32(24) {
		roll := dice(5000 + seed)
		wide := row(1, 60)
		for i := range wide {
			wide[i].Seen = roll(30)
		}
		for i := range 4 {
			client := 60 + 10*i
			small := split(roll(4)+1, leaf(client+1), leaf(client+2))
			if roll(2) == 0 {
				small = split(roll(4)+1, small)
			}
			wide = slices.Insert(wide, roll(len(wide)), small)
		}
		if roll(3) == 0 {
			wide = wide[:63]
		}
		asWords(t, split(roll(4)+1, leaf(126), split(roll(4)+1, wide...), leaf(127)), count)
	}
	if count[api.OK] < 500 || count[api.ErrLimit] < 100 {
		t.Errorf("thrown: %v", count)
	}
}
