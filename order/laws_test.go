package order_test

import (
	"math"
	"slices"
	"testing"

	"casement/api"
	"casement/order"
)

// dice gives numbers that are the same each time.
func dice(seed uint32) func(n int) int {
	return func(n int) int {
		seed = seed*1664525 + 1013904223
		return int(seed>>8) % n
	}
}

// shuffle puts a list into another order.
func shuffle(roll func(int) int, l []api.Item) []api.Item {
	l = slices.Clone(l)
	for i := range l {
		k := roll(i + 1)
		l[i], l[k] = l[k], l[i]
	}
	return l
}

// thrownItems may be stacked; many are another one's, and go round, and many are alike in when they were raised and came.
func thrownItems(roll func(int) int, most int) []api.Item {
	n := roll(most + 1)
	spread := 1 + roll(n+3)
	var l []api.Item
	for i := range n {
		it := api.Item{Client: 1 + 3*i, Band: roll(api.Bands), Raised: roll(spread), Born: roll(spread), Modal: roll(2) == 0}
		switch roll(4) {
		case 0, 1:
			it.Owner = 1 + 3*roll(n)
		case 2:
			it.Owner = roll(3*n+9) - 4
		}
		if roll(20) == 0 {
			it.Raised = math.MaxInt - roll(2)
		}
		if roll(20) == 0 {
			it.Born = math.MaxInt - roll(2)
		}
		l = append(l, it)
	}
	return shuffle(roll, l)
}

// small are all stacks of so many things with owners among them, bands, and times of raising and coming.
func small(n, bands, times int, use func(l []api.Item)) {
	l := make([]api.Item, n)
	var fill func(i int)
	fill = func(i int) {
		if i == n {
			use(l)
			return
		}
		for owner := range n + 1 {
			for band := range bands {
				for raised := range times {
					for born := range times {
						l[i] = api.Item{Client: n - i, Owner: owner, Band: band, Raised: raised, Born: born}
						fill(i + 1)
					}
				}
			}
		}
	}
	fill(0)
}

// thing finds a client's.
func thing(l []api.Item, client int) (api.Item, bool) {
	for _, it := range l {
		if it.Client == client {
			return it, true
		}
	}
	return api.Item{}, false
}

// goesTo tells whether from a client, going on to what is said to be its owner, at least once, another one is come to.
func goesTo(owner map[int]int, from, to int) bool {
	for range owner {
		from = owner[from]
		if from == to {
			return true
		}
	}
	return false
}

func isYounger(a, b api.Item) bool {
	if a.Born != b.Born {
		return a.Born > b.Born
	}
	return a.Client > b.Client
}

// ownersByWords tells clients' owners: who are named, less those of the youngest in the rings.
func ownersByWords(l []api.Item) map[int]int {
	named := map[int]int{}
	for _, it := range l {
		named[it.Client] = 0
		if _, ok := thing(l, it.Owner); ok && it.Owner != it.Client {
			named[it.Client] = it.Owner
		}
	}
	owner := map[int]int{}
	for _, it := range l {
		owner[it.Client] = named[it.Client]
		if !goesTo(named, it.Client, it.Client) {
			continue
		}
		youngest := it
		for _, other := range l {
			if goesTo(named, it.Client, other.Client) && isYounger(other, youngest) {
				youngest = other
			}
		}
		if youngest == it {
			owner[it.Client] = 0
		}
	}
	return owner
}

// bandByWords goes from owner to owner.
func bandByWords(l []api.Item, owner map[int]int, client int) int {
	it, _ := thing(l, client)
	if owner[client] == 0 {
		return it.Band
	}
	return max(it.Band, bandByWords(l, owner, owner[client]))
}

// key is by what things stand that have no owner.
func key(l []api.Item, owner map[int]int, client int) []int {
	it, _ := thing(l, client)
	return []int{bandByWords(l, owner, client), it.Raised, it.Born, it.Client}
}

// orderByWords takes one by one the least of those whose owner is gone.
func orderByWords(l []api.Item, owner map[int]int) []int {
	keys := map[int][]int{}
	left := map[int]bool{}
	for _, it := range l {
		keys[it.Client] = key(l, owner, it.Client)
		left[it.Client] = true
	}
	var taken []int
	for len(left) > 0 {
		least := 0
		for _, it := range l {
			if left[it.Client] && !left[owner[it.Client]] && (least == 0 || slices.Compare(keys[it.Client], keys[least]) < 0) {
				least = it.Client
			}
		}
		taken = append(taken, least)
		delete(left, least)
	}
	return taken
}

// byWords holds all that is told of things against the chapter's words.
func byWords(t *testing.T, l []api.Item) {
	t.Helper()
	owner := ownersByWords(l)
	var owners, bands []int
	for _, it := range l {
		owners = append(owners, owner[it.Client])
		bands = append(bands, bandByWords(l, owner, it.Client))
	}
	if got := order.Owners(l); !slices.Equal(got, owners) {
		t.Fatalf("Owners(%v) = %v, not %v", l, got, owners)
	}
	if got := order.Bands(l); !slices.Equal(got, bands) {
		t.Fatalf("Bands(%v) = %v, not %v", l, got, bands)
	}
	if got, e := order.Order(l); e != api.OK || !slices.Equal(got, orderByWords(l, owner)) {
		t.Fatalf("Order(%v) = %v, %d, not %v", l, got, e, orderByWords(l, owner))
	}
}

func TestSmall(t *testing.T) {
	for n := range 3 {
		small(n, api.Bands, 3, func(l []api.Item) { byWords(t, l) })
	}
	small(3, 2, 2, func(l []api.Item) { byWords(t, l) })
	small(4, 1, 1, func(l []api.Item) { byWords(t, l) })
	small(5, 1, 1, func(l []api.Item) { byWords(t, l) })
}

func TestThrown(t *testing.T) {
	roll := dice(1)
	for range 20000 {
		byWords(t, thrownItems(roll, 9))
	}
	for range 200 {
		byWords(t, thrownItems(roll, 128))
	}
}

// TestThrownCheck: things may be stacked till one of them becomes wrong, or another one's client, in whatever place.
func TestThrownCheck(t *testing.T) {
	roll := dice(2)
	for range 3000 {
		l := thrownItems(roll, 20)
		if len(l) < 2 {
			continue
		}
		allowed(t, l)
		i := roll(len(l))
		switch roll(6) {
		case 0:
			l[i].Client = -roll(9)
		case 1:
			l[i].Client = l[(i+1+roll(len(l)-1))%len(l)].Client
		case 2:
			l[i].Band = -1 - roll(9)
		case 3:
			l[i].Band = api.Bands + roll(9)
		case 4:
			l[i].Raised = -1 - roll(9)
		case 5:
			l[i].Born = -1 - roll(9)
		}
		refused(t, l, api.ErrArg)
	}
}

// stack is what is told of things, by clients.
type stack struct {
	place, owner, band map[int]int
}

func stackOf(l []api.Item) stack {
	s := stack{map[int]int{}, map[int]int{}, map[int]int{}}
	owners, bands := order.Owners(l), order.Bands(l)
	for i, it := range l {
		s.owner[it.Client], s.band[it.Client] = owners[i], bands[i]
	}
	clients, _ := order.Order(l)
	for i, client := range clients {
		s.place[client] = i
	}
	return s
}

// TestLaws: every client is there once, what Bands says rises, each thing stands above its owner (P16.5).
func TestLaws(t *testing.T) {
	roll := dice(3)
	for range 4000 {
		l := thrownItems(roll, 40)
		s := stackOf(l)
		clients, e := order.Order(l)
		if e != api.OK || len(clients) != len(l) || len(s.place) != len(l) {
			t.Fatalf("Order(%v) = %v, %d", l, clients, e)
		}
		for i, client := range clients {
			if _, ok := thing(l, client); !ok {
				t.Fatalf("Order(%v) has %d", l, client)
			}
			if i > 0 && s.band[clients[i-1]] > s.band[client] {
				t.Fatalf("Order(%v): %d stands above %d", l, client, clients[i-1])
			}
			if owner := s.owner[client]; owner != 0 && (s.place[owner] >= i || s.band[owner] > s.band[client]) {
				t.Fatalf("Order(%v): %d stands below its owner", l, client)
			}
		}
	}
}

// isOf tells whether a client is another one's, or is one's that is.
func isOf(s stack, client, other int) bool {
	for client != 0 && client != other {
		client = s.owner[client]
	}
	return client == other
}

// TestRaisedLast: above what was raised last of its band there is but what is its own, or theirs (P16.5).
func TestRaisedLast(t *testing.T) {
	roll := dice(4)
	for range 4000 {
		l := thrownItems(roll, 30)
		if len(l) == 0 {
			continue
		}
		i := roll(len(l))
		for k := range l { // leaves room above all for the one that is raised
			l[k].Raised = min(l[k].Raised, 1000)
		}
		l[i].Raised = 1001
		s := stackOf(l)
		last := l[i].Client
		for client, place := range s.place {
			if s.band[client] == s.band[last] && place > s.place[last] && !isOf(s, client, last) {
				t.Fatalf("of %v %d stands above %d, which was raised last", l, client, last)
			}
		}
	}
}

// TestAnyOrder: in which order things are handed in plays no part (P16.5).
func TestAnyOrder(t *testing.T) {
	roll := dice(5)
	for range 3000 {
		l := thrownItems(roll, 25)
		s := stackOf(l)
		for range 4 {
			other := shuffle(roll, l)
			for client, place := range stackOf(other).place {
				if place != s.place[client] {
					t.Fatalf("%d is at %d of %v, at %d of %v", client, s.place[client], l, place, other)
				}
			}
			owners, bands := order.Owners(other), order.Bands(other)
			for i, it := range other {
				if owners[i] != s.owner[it.Client] || bands[i] != s.band[it.Client] {
					t.Fatalf("%d has %d, %d of %v, %d, %d of %v", it.Client, s.owner[it.Client], s.band[it.Client], l, owners[i], bands[i], other)
				}
			}
		}
	}
}

// TestMemory: what is handed in stays as it is, its spare room, too; answers are new, and the same each time.
func TestMemory(t *testing.T) {
	roll := dice(6)
	for range 500 {
		l := thrownItems(roll, 30)
		roomy := append(slices.Clone(l), thrownItems(roll, 9)...)
		whole := slices.Clone(roomy)
		l = roomy[:len(l)]
		answers := func() [][]int {
			clients, _ := order.Order(l)
			order.Check(l)
			return [][]int{order.Owners(l), order.Bands(l), clients}
		}
		first := answers()
		kept := [][]int{slices.Clone(first[0]), slices.Clone(first[1]), slices.Clone(first[2])}
		for _, answer := range first {
			for i := range answer[:cap(answer)] {
				answer[:cap(answer)][i] = -7
			}
		}
		if !slices.Equal(roomy, whole) {
			t.Fatalf("%v became %v", whole, roomy)
		}
		if again := answers(); !slices.EqualFunc(again, kept, slices.Equal) {
			t.Fatalf("of %v first %v, then %v", l, kept, again)
		}
	}
}
