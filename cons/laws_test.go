package cons_test

import (
	"math"
	"slices"
	"testing"

	"casement/api"
	"casement/cons"
	"casement/share"
)

// dice gives numbers that are the same each time.
func dice(seed uint32) func(n int) int {
	return func(n int) int {
		seed = seed*1664525 + 1013904223
		return int(seed>>8) % n
	}
}

// node is a container as the chapter's words have it: each knows the split that it is a kid of.
type node struct {
	kind, weight, client, seen int
	up                         *node
	kids                       []*node
}

func nodeOf(c api.Con, up *node) *node {
	n := &node{kind: c.Kind, weight: c.Weight, client: c.Client, seen: c.Seen, up: up}
	for _, kid := range c.Kids {
		n.kids = append(n.kids, nodeOf(kid, n))
	}
	return n
}

func (n *node) con() api.Con {
	c := api.Con{Kind: n.kind, Weight: n.weight, Client: n.client, Seen: n.seen}
	for _, kid := range n.kids {
		c.Kids = append(c.Kids, kid.con())
	}
	return c
}

// all lists a container and all in it, as they stand.
func (n *node) all() []*node {
	l := []*node{n}
	for _, kid := range n.kids {
		l = append(l, kid.all()...)
	}
	return l
}

func (n *node) isLeaf() bool { return n.kind == 0 }

func (n *node) leaves() []*node {
	return slices.DeleteFunc(n.all(), func(n *node) bool { return !n.isLeaf() })
}

// leaf is nil, if the client has none.
func (n *node) leaf(client int) *node {
	for _, l := range n.leaves() {
		if l.client == client {
			return l
		}
	}
	return nil
}

func (n *node) below() int {
	if n.up == nil {
		return 0
	}
	return n.up.below() + 1
}

func (n *node) place() int { return slices.Index(n.up.kids, n) }

func (n *node) way() []int {
	if n.up == nil {
		return nil
	}
	return append(n.up.way(), n.place())
}

// madeRight holds one container against the chapter's words.
func (n *node) madeRight() bool {
	weighs := 1 <= n.weight && n.weight <= 1<<20
	if n.isLeaf() {
		return weighs && n.client >= 1 && n.seen >= 0 && len(n.kids) == 0 && n.up != nil
	}
	known := n.kind == api.SplitH || n.kind == api.SplitV || n.kind == api.Tabbed || n.kind == api.Stacked
	return weighs && known && n.client == 0 && n.seen == 0 && len(n.kids) <= 64 && (n.up == nil || len(n.kids) > 0)
}

func (n *node) isTree() bool {
	clients := map[int]bool{}
	for _, one := range n.all() {
		if !one.madeRight() || one.below() > 8 || one.isLeaf() && clients[one.client] {
			return false
		}
		if one.isLeaf() {
			clients[one.client] = true
		}
	}
	return len(clients) <= 128
}

func (n *node) put(kid *node, i int) {
	kid.up = n
	n.kids = slices.Insert(n.kids, i, kid)
}

func (n *node) takeOut() {
	i := n.place()
	n.up.kids = slices.Delete(n.up.kids, i, i+1)
}

func (n *node) insert(near, client, when int) api.Errno {
	beside := n.leaf(near)
	into, i := n, len(n.kids)
	if beside != nil {
		into, i = beside.up, beside.place()+1
	}
	switch {
	case n.leaf(client) != nil:
		return api.ErrTwice
	case client < 1 || when < 0:
		return api.ErrArg
	case near != 0 && beside == nil:
		return api.ErrNone
	case len(into.kids) == 64 || len(n.leaves()) == 128:
		return api.ErrLimit
	}
	into.put(&node{weight: 65536, client: client, seen: when}, i)
	return api.OK
}

func (n *node) remove(client int) api.Errno {
	leaf := n.leaf(client)
	if leaf == nil {
		return api.ErrNone
	}
	leaf.takeOut()
	for around := leaf.up; around != n; around = around.up {
		outer, i := around.up, around.place()
		if len(around.kids) < 2 {
			around.takeOut()
		}
		if len(around.kids) == 1 {
			around.kids[0].weight = around.weight
			outer.put(around.kids[0], i)
		}
	}
	return api.OK
}

func (n *node) swap(a, b int) api.Errno {
	one, two := n.leaf(a), n.leaf(b)
	if one == nil || two == nil {
		return api.ErrNone
	}
	keep := *one
	one.client, one.seen = two.client, two.seen
	two.client, two.seen = keep.client, keep.seen
	return api.OK
}

func isKind(kind int) bool { return 1 <= kind && kind <= 4 }

func (n *node) wrap(client, kind int) api.Errno {
	leaf := n.leaf(client)
	switch {
	case !isKind(kind):
		return api.ErrArg
	case leaf == nil:
		return api.ErrNone
	case len(leaf.up.kids) == 1:
		leaf.up.kind = kind
	case leaf.below() == 8:
		return api.ErrLimit
	default:
		i, around := leaf.place(), &node{kind: kind, weight: leaf.weight}
		leaf.takeOut()
		leaf.up.put(around, i)
		leaf.weight = 65536
		around.put(leaf, 0)
	}
	return api.OK
}

func (n *node) turn(client, kind int) api.Errno {
	leaf := n.leaf(client)
	switch {
	case !isKind(kind):
		return api.ErrArg
	case leaf == nil:
		return api.ErrNone
	}
	leaf.up.kind = kind
	return api.OK
}

func (n *node) grow(client, kind int, by float64) api.Errno {
	leaf := n.leaf(client)
	switch {
	case kind != 1 && kind != 2:
		return api.ErrArg
	case leaf == nil:
		return api.ErrNone
	}
	for one := leaf; one.up != nil; one = one.up {
		if one.up.kind == kind && len(one.up.kids) >= 2 {
			var weights []int
			for _, kid := range one.up.kids {
				weights = append(weights, kid.weight)
			}
			grown, e := share.Grow(weights, one.place(), by)
			one.weight = grown[one.place()]
			return e
		}
	}
	return api.ErrMove
}

func (n *node) touch(client, when int) api.Errno {
	leaf := n.leaf(client)
	switch {
	case when < 0:
		return api.ErrArg
	case leaf == nil:
		return api.ErrNone
	}
	leaf.seen = when
	return api.OK
}

// step is a thrown call: what it does to a tree, and to one by the words.
type step struct {
	name  string
	do    func(c api.Con) (api.Con, api.Errno)
	words func(n *node) api.Errno
}

// thrown throws steps; how often each of them comes is told by a text of their first letters.
func thrown(roll func(int) int, often string, c api.Con) step {
	client := func() int {
		if l := cons.Leaves(c); len(l) > 0 && roll(9) > 0 {
			return l[roll(len(l))]
		}
		return roll(220) - 3
	}
	a, b, kind, when := client(), client(), roll(4)+1, roll(30)
	if roll(25) == 0 {
		kind, when = roll(9)-2, roll(9)-5
	}
	by := []float64{0.5, -0.25, 1, 0, math.NaN(), math.Inf(1), math.Inf(-1), 3.3, -1e-5}[roll(9)]
	near := a
	if roll(8) == 0 {
		near = 0
	}
	if roll(12) > 0 {
		b = roll(220) - 1
	}
	switch often[roll(len(often))] {
	case 'i':
		return step{"Insert", func(c api.Con) (api.Con, api.Errno) { return cons.Insert(c, near, b, when) }, func(n *node) api.Errno { return n.insert(near, b, when) }}
	case 'r':
		return step{"Remove", func(c api.Con) (api.Con, api.Errno) { return cons.Remove(c, a) }, func(n *node) api.Errno { return n.remove(a) }}
	case 's':
		b = client()
		return step{"Swap", func(c api.Con) (api.Con, api.Errno) { return cons.Swap(c, a, b) }, func(n *node) api.Errno { return n.swap(a, b) }}
	case 'w':
		return step{"Wrap", func(c api.Con) (api.Con, api.Errno) { return cons.Wrap(c, a, kind) }, func(n *node) api.Errno { return n.wrap(a, kind) }}
	case 't':
		return step{"Turn", func(c api.Con) (api.Con, api.Errno) { return cons.Turn(c, a, kind) }, func(n *node) api.Errno { return n.turn(a, kind) }}
	case 'g':
		kind = roll(3) + 1
		return step{"Grow", func(c api.Con) (api.Con, api.Errno) { return cons.Grow(c, a, kind, by) }, func(n *node) api.Errno { return n.grow(a, kind, by) }}
	}
	return step{"Touch", func(c api.Con) (api.Con, api.Errno) { return cons.Touch(c, a, when) }, func(n *node) api.Errno { return n.touch(a, when) }}
}

// play throws steps at a tree, holds each against the words, and hands each tree that came of them on; it tells how often each error came.
func play(t *testing.T, seed uint32, often string, steps int, look func(c api.Con)) map[api.Errno]int {
	t.Helper()
	roll := dice(seed)
	c := cons.New(roll(4) + 1)
	count := map[api.Errno]int{}
	for range steps {
		step := thrown(roll, often, c)
		n, before := nodeOf(c, nil), text(c)
		got, e := step.do(c)
		want := step.words(n)
		if e != want || e == api.OK && !alike(got, n.con()) || e != api.OK && !isNone(got) || text(c) != before {
			t.Fatalf("%s of %s = %v, %d, not %v, %d", step.name, before, got, e, n.con(), want)
		}
		count[e]++
		if e == api.OK {
			c = got
			look(c)
		}
	}
	return count
}

// mixes are how often which steps come: many leaves, deep splits, few leaves.
func mixes() []string {
	return []string{"iiiiiiiiiirswtgo", "iiiiiiiiiiiiiwwwwwtgor", "iiiwwwwwwwwrrsgo", "iiirrrwwtggso", "iiiiiiiiiiiii", "iwwwwwwwwwrgg"}
}

// TestThrownSteps holds all calls that change trees against the chapter's words; what is told of a tree is one.
func TestThrownSteps(t *testing.T) {
	all := map[api.Errno]int{}
	came := 0
	look := func(c api.Con) {
		if cons.Check(c) != api.OK || !nodeOf(c, nil).isTree() {
			t.Fatalf("%v is no tree", c)
		}
		if came++; came%10 == 0 {
			asWords(t, c)
		}
	}
	for i, often := range mixes() {
		for seed := range uint32(8) {
			count := play(t, 100*uint32(i)+seed, often, 350, look)
			for e, n := range count {
				all[e] += n
			}
		}
	}
	for _, e := range []api.Errno{api.OK, api.ErrArg, api.ErrLimit, api.ErrNone, api.ErrTwice, api.ErrMove} {
		if all[e] < 20 {
			t.Errorf("the error %d came %d times alone", e, all[e])
		}
	}
}

// asWords holds what is told of a tree against the chapter's words.
func asWords(t *testing.T, c api.Con) {
	t.Helper()
	n := nodeOf(c, nil)
	if !alike(cons.Copy(c), c) {
		t.Fatalf("Copy(%v)", c)
	}
	var clients []int
	top, latest := 0, -1
	for _, leaf := range n.leaves() {
		clients = append(clients, leaf.client)
		if leaf.seen > latest {
			top, latest = leaf.client, leaf.seen
		}
		if way, ok := cons.Find(c, leaf.client); !ok || !slices.Equal(way, leaf.way()) {
			t.Fatalf("Find(%v, %d) = %v, %v", c, leaf.client, way, ok)
		}
	}
	if !slices.Equal(cons.Leaves(c), clients) || cons.Top(c) != top {
		t.Fatalf("Leaves(%v) = %v, Top %d", c, cons.Leaves(c), cons.Top(c))
	}
}

// spoil makes one thing of a container another one, or, now and then, the same.
func spoil(n *node, roll func(int) int) {
	l := n.all()
	one := l[roll(len(l))]
	odd := list(-1, 0, 1, 2, 3, 4, 5, 1<<20, 1<<20+1, math.MaxInt, math.MinInt)
	switch roll(7) {
	case 0:
		one.kind = roll(8) - 2
	case 1:
		one.weight = odd[roll(len(odd))]
	case 2:
		one.client = odd[roll(len(odd))]
	case 3:
		one.seen = odd[roll(len(odd))]
	case 4:
		one.kids = nil
	case 5: // perhaps its own, or one too many, or too deep
		one.put(nodeOf(l[roll(len(l))].con(), nil), 0)
	case 6:
		other := l[roll(len(l))]
		one.client, one.kind, one.kids = other.client, other.kind, nil
	}
}

// TestThrownChecks holds Check against the words, of trees of which one thing is made another.
func TestThrownChecks(t *testing.T) {
	roll := dice(77)
	right, wrong := 0, 0
	check := func(c api.Con) {
		for range 6 {
			n := nodeOf(c, nil)
			spoil(n, roll)
			c := n.con()
			n = nodeOf(c, nil) // what was put in knows now where it is
			want := api.ErrTree
			if n.isTree() {
				want = api.OK
				right++
			} else {
				wrong++
			}
			if e := cons.Check(c); e != want {
				t.Fatalf("Check(%v) = %d, not %d", c, e, want)
			}
		}
	}
	for i, often := range mixes() {
		play(t, 1000+uint32(i), often, 250, check)
	}
	if right < 500 || wrong < 500 {
		t.Errorf("%d were trees, %d none", right, wrong)
	}
}

// needed tells whether each split around a client, but the root, has something else, too.
func needed(n *node, client int) bool {
	for one := n.leaf(client).up; one.up != nil; one = one.up {
		if len(one.kids) < 2 {
			return false
		}
	}
	return true
}

// TestInAndOut: what is put in and removed again is as it was, where no split around it had one thing alone (such a one is gone then).
func TestInAndOut(t *testing.T) {
	same := 0
	inAndOut := func(c api.Con) {
		for _, near := range append(cons.Leaves(c), 0) {
			grown, e := cons.Insert(c, near, 999, 5)
			if e == api.ErrLimit {
				continue
			}
			got, again := cons.Remove(grown, 999)
			if e != api.OK || again != api.OK || !slices.Equal(cons.Leaves(got), cons.Leaves(c)) {
				t.Fatalf("%v, and in it behind %d, and out again: %v, %d, %d", c, near, got, e, again)
			}
			if near != 0 && !needed(nodeOf(c, nil), near) {
				continue
			}
			same++
			if !alike(got, c) {
				t.Fatalf("%v, and in it behind %d, and out again: %v", c, near, got)
			}
		}
	}
	for i, often := range mixes() {
		play(t, 2000+uint32(i), often, 60, inAndOut)
	}
	if same < 500 {
		t.Errorf("as it was came %d times alone", same)
	}
}

// TestTwoSwaps of the same are none, whichever is named first.
func TestTwoSwaps(t *testing.T) {
	twice := func(c api.Con) {
		l := cons.Leaves(c)
		for i, a := range l {
			b := l[(i*7+3)%len(l)]
			once, e := cons.Swap(c, a, b)
			got, again := cons.Swap(once, b, a)
			if e != api.OK || again != api.OK || !alike(got, c) {
				t.Fatalf("Swap(%v, %d, %d), twice: %v, %d, %d", c, a, b, got, e, again)
			}
			if way, _ := cons.Find(once, a); !slices.Equal(way, wayIn(c, b)) {
				t.Fatalf("Swap(%v, %d, %d) = %v", c, a, b, once)
			}
		}
	}
	for i, often := range mixes() {
		play(t, 3000+uint32(i), often, 60, twice)
	}
}

func wayIn(c api.Con, client int) []int {
	way, _ := cons.Find(c, client)
	return way
}
