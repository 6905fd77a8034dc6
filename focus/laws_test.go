package focus_test

import (
	"math"
	"slices"
	"testing"

	"casement/api"
	"casement/focus"
	"casement/order"
)

// dice gives numbers that are the same each time.
func dice(seed uint32) func(n int) int {
	return func(n int) int {
		seed = seed*1664525 + 1013904223
		return int(seed>>8) % n
	}
}

// shuffle puts things, and their numbers, into another order.
func shuffle(roll func(int) int, l []api.Item, seen []int) ([]api.Item, []int) {
	l, seen = slices.Clone(l), slices.Clone(seen)
	for i := range l {
		k := roll(i + 1)
		l[i], l[k] = l[k], l[i]
		seen[i], seen[k] = seen[k], seen[i]
	}
	return l, seen
}

// thrown are things that may be stacked, with their numbers; many are another one's, and modal, and many are alike in their times.
func thrown(roll func(int) int, most int) ([]api.Item, []int) {
	n := roll(most + 1)
	spread := 1 + roll(n+3)
	odd := 1 + roll(4)
	var l []api.Item
	var seen []int
	for i := range n {
		it := api.Item{Client: 1 + 3*i, Band: roll(api.Bands), Raised: roll(spread), Born: roll(spread), Modal: roll(odd) == 0}
		switch roll(6) {
		case 0, 1, 2:
			it.Owner = 1 + 3*roll(i+1)
		case 3:
			it.Owner = 1 + 3*roll(n)
		case 4:
			it.Owner = roll(3*n+9) - 4
		}
		if roll(20) == 0 {
			it.Raised = math.MaxInt - roll(2)
		}
		l = append(l, it)
		seen = append(seen, roll(2*spread)-spread)
	}
	return shuffle(roll, l, seen)
}

// small are all stacks of so many things with owners among them, modal or not, and times of raising and coming.
func small(n, times int, use func(l []api.Item)) {
	l := make([]api.Item, n)
	var fill func(i int)
	fill = func(i int) {
		if i == n {
			use(l)
			return
		}
		for owner := range n + 1 {
			for raised := range times {
				for born := range times {
					for m := range 2 {
						l[i] = api.Item{Client: n - i, Owner: owner, Raised: raised, Born: born, Modal: m == 1}
						fill(i + 1)
					}
				}
			}
		}
	}
	fill(0)
}

// own are the things that are a client's own: those whose owner it is, and theirs.
func own(l []api.Item, client int) []api.Item {
	var found []api.Item
	if client < 1 {
		return found
	}
	for i, owner := range order.Owners(l) {
		if owner == client {
			found = append(found, l[i])
			found = append(found, own(l, l[i].Client)...)
		}
	}
	return found
}

// modalByWords goes on to the greatest modal one, as long as there is one.
func modalByWords(l []api.Item, client int) int {
	var greatest []int
	for _, it := range own(l, client) {
		key := []int{it.Raised, it.Born, it.Client}
		if it.Modal && slices.Compare(key, greatest) > 0 {
			greatest = key
		}
	}
	if greatest == nil {
		return client
	}
	return modalByWords(l, greatest[2])
}

func chooseByWords(l []api.Item, seen []int) int {
	if len(l) == 0 {
		return 0
	}
	first := 0
	for i := range l {
		if seen[i] > seen[first] {
			first = i
		}
	}
	return modalByWords(l, l[first].Client)
}

// others are the things without that of a client, with their numbers, and the owner that it had.
func others(l []api.Item, seen []int, gone int) ([]api.Item, []int, int) {
	var rest []api.Item
	var numbers []int
	had := 0
	for i, it := range l {
		if it.Client == gone {
			had = order.Owners(l)[i]
			continue
		}
		rest = append(rest, it)
		numbers = append(numbers, seen[i])
	}
	return rest, numbers, had
}

func afterByWords(l []api.Item, seen []int, gone int) int {
	rest, numbers, had := others(l, seen, gone)
	if had != 0 {
		return modalByWords(rest, had)
	}
	return chooseByWords(rest, numbers)
}

// asked are all clients, and some that aren't there.
func asked(l []api.Item) []int {
	clients := []int{0, -1, 2, 500}
	for _, it := range l {
		clients = append(clients, it.Client)
	}
	return clients
}

// byWords holds all that is told of things against the chapter's words.
func byWords(t *testing.T, l []api.Item, seen []int) {
	t.Helper()
	checkChoose(t, l, seen, chooseByWords(l, seen))
	for _, client := range asked(l) {
		checkModal(t, l, client, modalByWords(l, client))
		checkAfter(t, l, seen, client, afterByWords(l, seen, client))
	}
	if t.Failed() {
		t.FailNow()
	}
}

func TestSmall(t *testing.T) {
	times := [][]int{list(0, 0, 0, 0), list(1, 0, 2, 3), list(2, 2, 1, 0), list(0, 5, 5, -5)}
	for n := range 3 {
		small(n, 3, func(l []api.Item) {
			for _, seen := range times {
				byWords(t, l, seen[:n])
			}
		})
	}
	next := 0
	for _, spread := range list(1, 2) {
		small(5-spread, spread, func(l []api.Item) {
			byWords(t, l, times[next][:len(l)])
			next = (next + 1) % 3 // 3, as it is not to go along with what goes on by twos
		})
	}
}

func TestThrown(t *testing.T) {
	roll := dice(1)
	for range 4000 {
		l, seen := thrown(roll, 12)
		byWords(t, l, seen)
	}
	for range 8 {
		l, seen := thrown(roll, 128)
		byWords(t, l, seen)
	}
}

// TestLaws: who is told has no modal one of its own, and is one of the things, if who was asked for is (P17.4).
func TestLaws(t *testing.T) {
	roll := dice(2)
	hold := func(l []api.Item, told int, must bool) {
		isThere := slices.ContainsFunc(l, func(it api.Item) bool { return it.Client == told })
		isModal := slices.ContainsFunc(own(l, told), func(it api.Item) bool { return it.Modal })
		if must != isThere || isModal {
			t.Fatalf("of %v %d is told", l, told)
		}
	}
	for range 3000 {
		l, seen := thrown(roll, 20)
		hold(l, focus.Choose(l, seen), len(l) > 0)
		for i, it := range l {
			hold(l, focus.Modal(l, it.Client), true)
			rest := append(slices.Clone(l[:i]), l[i+1:]...)
			hold(rest, focus.After(l, seen, it.Client), len(rest) > 0)
		}
		hold(l, focus.Modal(l, 500), false)
		hold(l, focus.After(l, seen, 500), len(l) > 0)
	}
}

// TestAnyOrder: in which order things are handed in plays no part, but among those seen at one time.
func TestAnyOrder(t *testing.T) {
	roll := dice(3)
	for range 1500 {
		l, seen := thrown(roll, 20)
		for i := range seen {
			seen[i] = seen[i]*100 + i
		}
		other, numbers := shuffle(roll, l, seen)
		checkChoose(t, other, numbers, focus.Choose(l, seen))
		for _, client := range asked(l) {
			checkModal(t, other, client, focus.Modal(l, client))
			checkAfter(t, other, numbers, client, focus.After(l, seen, client))
		}
	}
}

// TestThrownRefused: nothing is told any more, once one of the things is wrong.
func TestThrownRefused(t *testing.T) {
	roll := dice(4)
	for range 1000 {
		l, seen := thrown(roll, 12)
		if len(l) < 2 {
			continue
		}
		i := roll(len(l))
		switch roll(6) {
		case 0:
			l[i].Client = -roll(9)
		case 1:
			l[i].Client = l[(i+1+roll(len(l)-1))%len(l)].Client
		case 2:
			l[i].Band = -1 - roll(9)
		case 3:
			l[i].Band = api.Bands + roll(9)
		case 4:
			l[i].Raised = -1 - roll(9)
		case 5:
			l[i].Born = -1 - roll(9)
		}
		checkChoose(t, l, seen, 0)
		for _, client := range asked(l) {
			checkModal(t, l, client, client)
			checkAfter(t, l, seen, client, 0)
		}
	}
}

// TestMemory: what is handed in stays as it is, its spare room, too; and what is told is the same each time.
func TestMemory(t *testing.T) {
	roll := dice(5)
	for range 1000 {
		l, seen := thrown(roll, 12)
		more, numbers := thrown(roll, 9)
		l, seen = append(slices.Clone(l), more...)[:len(l)], append(slices.Clone(seen), numbers...)[:len(l)]
		things, times := slices.Clone(l[:cap(l)]), slices.Clone(seen[:cap(seen)])
		for range 2 {
			byWords(t, l, seen)
		}
		if !slices.Equal(l[:cap(l)], things) || !slices.Equal(seen[:cap(seen)], times) {
			t.Fatalf("%v, %v became %v, %v", things, times, l[:cap(l)], seen[:cap(seen)])
		}
	}
}
