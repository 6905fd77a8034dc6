package cons_test

import (
	"math"
	"slices"
	"testing"

	"casement/api"
	"casement/cons"
)

func noClients() []int { return list(0, -1, 777, math.MinInt, math.MaxInt) }

// full is a tree of as many leaves as there may be, with splits that have as many kids as there may be.
func full() api.Con { return h(v(row(1, 64)...), v(row(65, 64)...)) }

func TestInsertFirstError(t *testing.T) {
	for _, c := range noTrees() {
		for _, near := range list(0, 1, 777, -1) {
			for _, client := range list(1, 2, 98, 500, 0, -1) {
				got, e := cons.Insert(c, near, client, 0)
				refused(t, "Insert into no tree", got, e, api.ErrTree)
				got, e = cons.Insert(c, near, client, -1)
				refused(t, "Insert into no tree, seen below 0", got, e, api.ErrTree)
			}
		}
	}
	for _, c := range []api.Con{h(leaf(1), v(leaf(2), leaf(64))), h(row(1, 64)...), full()} {
		for _, near := range append(noClients(), 1, 2, 64) {
			for _, when := range list(-1, math.MinInt, 0, 5) {
				for _, client := range list(1, 2, 64) {
					got, e := cons.Insert(c, near, client, when)
					refused(t, "Insert of one that is there", got, e, api.ErrTwice)
				}
				for _, client := range list(0, -1, -2, math.MinInt) {
					got, e := cons.Insert(c, near, client, when)
					refused(t, "Insert of no client", got, e, api.ErrArg)
				}
			}
			for _, when := range list(-1, -5, math.MinInt) {
				got, e := cons.Insert(c, near, 999, when)
				refused(t, "Insert of one seen below 0", got, e, api.ErrArg)
			}
		}
		for _, near := range noClients()[1:] {
			got, e := cons.Insert(c, near, 999, 0)
			refused(t, "Insert behind one that isn't there", got, e, api.ErrNone)
			got, e = cons.Insert(c, 999, 999, 0)
			refused(t, "Insert behind itself", got, e, api.ErrNone)
		}
	}
	for _, near := range list(0, 1, 64, 65, 128) {
		got, e := cons.Insert(full(), near, 999, 0)
		refused(t, "Insert where there is no room", got, e, api.ErrLimit)
	}
}

// call is one of the calls that change what a client has, with arguments that are right but for the tree and the client.
type call struct {
	name string
	do   func(c api.Con, client int) (api.Con, api.Errno)
}

func calls() []call {
	l := []call{
		{"Remove", cons.Remove},
		{"Swap", func(c api.Con, client int) (api.Con, api.Errno) { return cons.Swap(c, client, 1) }},
		{"Swap with it", func(c api.Con, client int) (api.Con, api.Errno) { return cons.Swap(c, 1, client) }},
		{"Swap with itself", func(c api.Con, client int) (api.Con, api.Errno) { return cons.Swap(c, client, client) }},
		{"Touch", func(c api.Con, client int) (api.Con, api.Errno) { return cons.Touch(c, client, 0) }},
		{"Grow to a side", func(c api.Con, client int) (api.Con, api.Errno) { return cons.Grow(c, client, api.SplitH, 1) }},
		{"Grow down", func(c api.Con, client int) (api.Con, api.Errno) { return cons.Grow(c, client, api.SplitV, math.NaN()) }},
	}
	for _, kind := range splitKinds() {
		l = append(l, call{"Wrap", func(c api.Con, client int) (api.Con, api.Errno) { return cons.Wrap(c, client, kind) }})
		l = append(l, call{"Turn", func(c api.Con, client int) (api.Con, api.Errno) { return cons.Turn(c, client, kind) }})
	}
	return l
}

// wrongCalls have an argument that is wrong whatever the tree is.
func wrongCalls() []call {
	var l []call
	for _, kind := range noSplits() {
		l = append(l, call{"Wrap", func(c api.Con, client int) (api.Con, api.Errno) { return cons.Wrap(c, client, kind) }})
		l = append(l, call{"Turn", func(c api.Con, client int) (api.Con, api.Errno) { return cons.Turn(c, client, kind) }})
	}
	for _, kind := range append(noSplits(), api.Tabbed, api.Stacked) {
		l = append(l, call{"Grow", func(c api.Con, client int) (api.Con, api.Errno) { return cons.Grow(c, client, kind, 0.5) }})
	}
	for _, when := range list(-1, -2, math.MinInt) {
		l = append(l, call{"Touch", func(c api.Con, client int) (api.Con, api.Errno) { return cons.Touch(c, client, when) }})
	}
	return l
}

// TestFirstError: what is no tree is told ahead of a client that isn't there, and that ahead of what else is wrong.
func TestFirstError(t *testing.T) {
	for _, call := range calls() {
		for _, c := range noTrees() {
			for _, client := range append(noClients(), 1, 2, 98) {
				got, e := call.do(c, client)
				refused(t, call.name+" in no tree", got, e, api.ErrTree)
			}
		}
		for _, c := range []api.Con{h(), h(leaf(1)), h(leaf(1), v(leaf(2))), deep(8, leaf(1)), deep(7, h(leaf(1), leaf(2))), h(row(1, 64)...)} {
			for _, client := range noClients() {
				got, e := call.do(c, client)
				refused(t, call.name+" of none", got, e, api.ErrNone)
			}
		}
	}
}

// TestFirstErrorOfArguments: a wrong kind, or a wrong time, is told ahead of all.
func TestFirstErrorOfArguments(t *testing.T) {
	for _, call := range wrongCalls() {
		for _, c := range append(noTrees(), h(), h(leaf(1)), h(leaf(1), leaf(2)), v(leaf(1), h(leaf(2))), deep(8, leaf(1)), deep(7, h(leaf(1), leaf(2)))) {
			for _, client := range append(noClients(), 1, 2, 98) {
				got, e := call.do(c, client)
				refused(t, call.name+" with a wrong argument", got, e, api.ErrArg)
			}
		}
	}
}

// roomy is a container in which each list has spare room, where something is written.
func roomy(c api.Con) api.Con {
	kids := make([]api.Con, 0, len(c.Kids)+3)
	for _, kid := range c.Kids {
		kids = append(kids, roomy(kid))
	}
	spare := kids[len(kids):cap(kids)]
	for i := range spare {
		spare[i] = api.Con{Weight: -77 - i}
	}
	c.Kids = kids
	return c
}

// wholeText writes a container with the spare room of its lists.
func wholeText(c api.Con) string {
	s := text(api.Con{Kind: c.Kind, Weight: c.Weight, Client: c.Client, Seen: c.Seen}) + "("
	for _, kid := range c.Kids[:cap(c.Kids)] {
		s += wholeText(kid)
	}
	return s + ")"
}

// places lists where all that a container's lists have stands, their spare room, too.
func places(c api.Con) []*api.Con {
	var l []*api.Con
	kids := c.Kids[:cap(c.Kids)]
	for i := range kids {
		l = append(l, &kids[i])
		l = append(l, places(kids[i])...)
	}
	return l
}

// apart fails where two lists of what is given share memory.
func apart(t *testing.T, what string, l ...api.Con) {
	t.Helper()
	taken := map[*api.Con]bool{}
	for _, c := range l {
		for _, p := range places(c) {
			if taken[p] {
				t.Fatalf("%s: memory is shared", what)
			}
			taken[p] = true
		}
	}
}

// TestMemoryOfTrees: what is handed in stays as it is, its spare room, too, and what is told shares no memory with it, nor with another answer.
func TestMemoryOfTrees(t *testing.T) {
	insert := func(near int) func(c api.Con, client int) (api.Con, api.Errno) {
		return func(c api.Con, client int) (api.Con, api.Errno) { return cons.Insert(c, near, 900+client, 3) }
	}
	all := append(calls(), call{"Insert", insert(0)}, call{"Insert behind 2", insert(2)}, call{"Insert behind 5", insert(5)}, call{"Copy", func(c api.Con, _ int) (api.Con, api.Errno) { return cons.Copy(c), api.OK }})
	for _, c := range []api.Con{h(leaf(1), leaf(2), leaf(5)), h(leaf(1), v(leaf(2), leaf(3), h(leaf(6), leaf(7))), tabbed(leaf(4), leaf(5))), h(v(leaf(1)), v(leaf(2)), v(tabbed(leaf(3)), leaf(5))), h(row(1, 20)...)} {
		c = roomy(c)
		before := wholeText(c)
		for _, call := range append(all, wrongCalls()...) {
			for _, client := range append(cons.Leaves(c), noClients()...) {
				one, e := call.do(c, client)
				two, again := call.do(c, client)
				if e != again || !alike(one, two) {
					t.Errorf("%s: %v, %d, and then %v, %d", call.name, one, e, two, again)
				}
				apart(t, call.name, c, one, two)
				if wholeText(c) != before {
					t.Fatalf("%s changed what it was given", call.name)
				}
			}
		}
	}
}

// TestMemoryOfCopies: lists that stand twice in a container are two in its copy.
func TestMemoryOfCopies(t *testing.T) {
	inner := v(leaf(1), leaf(2))
	c := h(inner, inner, h(inner))
	apart(t, "Copy", cons.Copy(c), cons.Copy(c))
	for _, c := range []api.Con{c, roomy(inner), roomy(leaf(1))} {
		before := wholeText(c)
		got := cons.Copy(c)
		apart(t, "Copy", got, cons.Copy(c))
		for _, p := range places(got) {
			*p = api.Con{}
		}
		if wholeText(c) != before {
			t.Errorf("a copy that was written to changed what it is of: %v", c)
		}
	}
}

// TestMemoryOfLists: what is told of a tree in lists is new each time, and each way is.
func TestMemoryOfLists(t *testing.T) {
	c := roomy(h(leaf(1), v(leaf(2), tabbed(leaf(3), leaf(4))), leaf(5)))
	before := wholeText(c)
	spoil := func(l []int) {
		l = l[:cap(l)]
		for i := range l {
			l[i] = -77
		}
	}
	for _, client := range list(1, 2, 3, 4, 5) {
		one, _ := cons.Find(c, client)
		want := slices.Clone(one)
		two, _ := cons.Find(c, client)
		leaves := cons.Leaves(c)
		spoil(one)
		spoil(leaves)
		three, _ := cons.Find(c, client)
		if !slices.Equal(two, want) || !slices.Equal(three, want) || !slices.Equal(cons.Leaves(c), list(1, 2, 3, 4, 5)) {
			t.Errorf("what is told of %d is shared", client)
		}
	}
	cons.Check(c)
	cons.Top(c)
	if wholeText(c) != before {
		t.Errorf("what was asked about is changed: %v", c)
	}
}
