package cons

import (
	"testing"

	"casement/api"
)

// endOf tells what a look ends with whose closure gives up so: an error, or a panic that goes on.
func endOf(giveUp func()) (e api.Errno, end any) {
	defer func() { end = recover() }()
	return look(New(api.SplitH), func(api.Con, []int) { giveUp() }), nil
}

// TestLookGivenUp: what a look is given up with ends there, but a fault of the program goes on.
func TestLookGivenUp(t *testing.T) {
	if e, end := endOf(func() {}); e != api.OK || end != nil {
		t.Errorf("not given up: %d, %v", e, end)
	}
	if e, end := endOf(func() { panic(enough{}) }); e != api.OK || end != nil {
		t.Errorf("enough: %d, %v", e, end)
	}
	if e, end := endOf(func() { panic(api.ErrTree) }); e != api.ErrTree || end != nil {
		t.Errorf("an error: %d, %v", e, end)
	}
	if _, end := endOf(func() { panic("a fault") }); end != "a fault" {
		t.Errorf("a fault: %v", end)
	}
}

// TestLookEnds where it is given up: what is behind is not visited any more.
func TestLookEnds(t *testing.T) {
	c := api.Con{Kind: api.SplitH, Kids: []api.Con{{Client: 1}, {Client: 2}, {Client: 3}}}
	visits := 0
	look(c, func(c api.Con, _ []int) {
		visits++
		if c.Client == 2 {
			panic(enough{})
		}
	})
	if visits != 3 {
		t.Errorf("%d visits", visits)
	}
}

// TestFindKeepsWays: those of several clients, of one that is named twice, and of one that isn't there.
func TestFindKeepsWays(t *testing.T) {
	c := New(api.SplitH)
	for client := 1; client <= 3; client++ {
		c, _ = Insert(c, 0, client, 0)
	}
	for range 7 {
		c = api.Con{Kind: api.Tabbed, Weight: 1, Kids: []api.Con{c}}
	}
	ways, e := find(c, 3, 9, 1, 0, 1, 2)
	if e != api.OK || len(ways) != 6 || ways[1] != nil || ways[3] != nil {
		t.Fatalf("find = %v, %d", ways, e)
	}
	for i, last := range map[int]int{0: 2, 2: 0, 4: 0, 5: 1} {
		if len(ways[i]) != 8 || ways[i][7] != last {
			t.Errorf("the way %d is %v", i, ways[i])
		}
	}
}
