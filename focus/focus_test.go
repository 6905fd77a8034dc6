package focus_test

import (
	"math"
	"slices"
	"testing"

	"casement/api"
	"casement/focus"
)

// list is numbers, in order.
func list(l ...int) []int { return l }

// owned are the things 1, 2 and so on, whose owners are given; they came, and were raised, in this order.
func owned(owners ...int) []api.Item {
	var l []api.Item
	for i, owner := range owners {
		l = append(l, api.Item{Client: i + 1, Owner: owner, Raised: 10 + i, Born: 10 + i})
	}
	return l
}

// modal makes things modal.
func modal(l []api.Item, clients ...int) []api.Item {
	for i := range l {
		l[i].Modal = l[i].Modal || slices.Contains(clients, l[i].Client)
	}
	return l
}

// raised gives things the times at which they were raised.
func raised(l []api.Item, times ...int) []api.Item {
	for i, when := range times {
		l[i].Raised = when
	}
	return l
}

// born gives things the times at which they came.
func born(l []api.Item, times ...int) []api.Item {
	for i, when := range times {
		l[i].Born = when
	}
	return l
}

// row is things of which each is owned by the one ahead of it.
func row(n int) []api.Item {
	l := owned(make([]int, n)...)
	for i := range l {
		l[i].Owner = i
	}
	return l
}

// allModal makes all things modal.
func allModal(l []api.Item) []api.Item {
	for i := range l {
		l[i].Modal = true
	}
	return l
}

func checkModal(t *testing.T, l []api.Item, client, want int) {
	t.Helper()
	if got := focus.Modal(l, client); got != want {
		t.Errorf("Modal(%v, %d) = %d, not %d", l, client, got, want)
	}
}

// checkModals holds what Modal tells of the things 1, 2 and so on.
func checkModals(t *testing.T, l []api.Item, want ...int) {
	t.Helper()
	for i, n := range want {
		checkModal(t, l, i+1, n)
	}
}

func checkChoose(t *testing.T, l []api.Item, seen []int, want int) {
	t.Helper()
	if got := focus.Choose(l, seen); got != want {
		t.Errorf("Choose(%v, %v) = %d, not %d", l, seen, got, want)
	}
}

func checkAfter(t *testing.T, l []api.Item, seen []int, gone, want int) {
	t.Helper()
	if got := focus.After(l, seen, gone); got != want {
		t.Errorf("After(%v, %v, %d) = %d, not %d", l, seen, gone, got, want)
	}
}

// chapter is the chapter's example.
func chapter() []api.Item {
	return []api.Item{{Client: 1}, {Client: 2, Modal: true, Owner: 1}, {Client: 3, Modal: true, Owner: 2}}
}

func TestExample(t *testing.T) {
	checkModal(t, chapter(), 1, 3)
	for _, seen := range [][]int{list(0, 0, 0), list(1, 2, 3), list(3, 2, 1)} {
		checkAfter(t, chapter(), seen, 3, 2)
	}
}

// TestModalNone: where nothing of its own is modal, it is the client, whoever that is.
func TestModalNone(t *testing.T) {
	for _, client := range list(math.MinInt, -1, 0, 1, 2, 99, math.MaxInt) {
		checkModal(t, nil, client, client)
		checkModal(t, []api.Item{}, client, client)
		checkModal(t, []api.Item{{Client: 7}}, client, client)
		checkModal(t, []api.Item{{Client: 7, Modal: true}}, client, client)
		checkModal(t, owned(0, 1, 2), client, client)                       // its own aren't modal
		checkModal(t, modal(owned(0, 0, 0), 1, 2, 3), client, client)       // modal ones are nobody's own
		checkModal(t, modal(owned(0, -1, 99, -5), 2, 3, 4), client, client) // nor are they where their owner isn't there
	}
	checkModals(t, modal(owned(0, 1, 2), 1), 1, 2, 3)                // that it is modal itself is nothing to it
	checkModals(t, modal(owned(1, 2, 3), 1, 2, 3), 1, 2, 3)          // nothing is its own
	checkModals(t, modal(owned(0, 1, 0, 3), 1, 3), 1, 2, 3, 4)       // an owner is not what is its own
	checkModals(t, modal(owned(0, 1, 1, 1), 1), 1, 2, 3, 4)          // nor is another one's owner
	checkModals(t, modal(owned(0, 1, 1), 3), 3, 2, 3)                // nor another one of its owner's
	checkModals(t, modal(owned(0, 0, 2, 0, 4), 3, 5), 1, 3, 3, 5, 5) // each has its own
}

// TestModalOwn: what is owned by what is owned, however often, is its own, too; modal or not, what is between.
func TestModalOwn(t *testing.T) {
	checkModals(t, modal(owned(0, 1, 2), 3), 3, 3, 3)
	checkModals(t, modal(owned(0, 1, 2), 2), 2, 2, 3)
	checkModals(t, modal(owned(0, 1, 2), 2, 3), 3, 3, 3)
	checkModals(t, modal(owned(2, 3, 4, 0), 1), 1, 1, 1, 1)
	checkModals(t, modal(owned(2, 3, 4, 0), 3), 1, 2, 3, 3)
	checkModals(t, modal(owned(0, 1, 2, 3, 4), 2, 4), 4, 4, 4, 4, 5)
	checkModals(t, modal(owned(77, 1, 2), 3), 3, 3, 3)
	checkModal(t, []api.Item{{Client: math.MaxInt}, {Client: math.MaxInt - 1, Owner: math.MaxInt, Modal: true}}, math.MaxInt, math.MaxInt-1)
	checkModal(t, []api.Item{{Client: 9, Owner: 4, Modal: true}, {Client: 4, Owner: 2}, {Client: 2}}, 2, 9)
	checkModal(t, []api.Item{{Client: 9, Owner: 4, Modal: true}, {Client: 4, Owner: 2}, {Client: 2}}, 1, 1) // places are no clients
}

// TestModalGreatest: of several it is the one raised last, of these the youngest, of these the one of the greatest client.
func TestModalGreatest(t *testing.T) {
	l := modal(owned(0, 1, 1, 1), 2, 3, 4)
	checkModal(t, raised(l, 0, 5, 4, 3), 1, 2)
	checkModal(t, raised(l, 0, 3, 5, 4), 1, 3)
	checkModal(t, raised(l, 99, 4, 3, 5), 1, 4)
	checkModal(t, raised(l, 0, 0, math.MaxInt, math.MaxInt-1), 1, 3)
	checkModal(t, born(raised(l, 0, 5, 4, 3), 9, 0, 9, 9), 1, 2) // when they came plays a part among those alone that were raised at one time
	checkModal(t, born(raised(l, 0, 5, 5, 3), 9, 8, 7, 9), 1, 2)
	checkModal(t, born(raised(l, 0, 5, 5, 3), 9, 7, 8, 9), 1, 3)
	checkModal(t, born(raised(l, 0, 5, 5, 5), 0, math.MaxInt, 0, math.MaxInt-1), 1, 2)
	checkModal(t, born(raised(l, 0, 5, 5, 5), 9, 7, 7, 6), 1, 3)
	checkModal(t, born(raised(l, 0, 5, 5, 5), 9, 7, 7, 7), 1, 4)
	checkModal(t, born(raised(l, 0, 0, 0, 0), 0, 0, 0, 0), 1, 4)
	slices.Reverse(l) // the greatest client, wherever it stands
	checkModal(t, l, 1, 4)
	l = modal(owned(0, 1, 1, 1), 2, 4) // 3 is raised last of all, but isn't modal
	checkModal(t, raised(l, 0, 5, 9, 3), 1, 2)
	for band := range api.Bands { // bands play no part
		for other := range api.Bands {
			l := modal(owned(0, 1, 1), 2, 3)
			l[1].Band, l[2].Band = band, other
			checkModal(t, raised(l, 0, 5, 4), 1, 2)
			checkModal(t, raised(l, 0, 4, 5), 1, 3)
		}
	}
}

// TestModalOn: the one that is told has no modal one of its own, whenever that was raised.
func TestModalOn(t *testing.T) {
	l := modal(owned(0, 1, 2, 1), 2, 3, 4)
	checkModals(t, raised(l, 0, 9, 1, 5), 3, 3, 3, 4)
	checkModals(t, raised(l, 0, 5, 1, 9), 4, 3, 3, 4)
	checkModals(t, raised(l, 0, 1, 9, 5), 3, 3, 3, 4) // among its own are all theirs
	checkModals(t, raised(l, 0, 5, 9, 9), 4, 3, 3, 4)
	l = modal(owned(0, 1, 2, 3, 2), 2, 4, 5) // 3 is not modal, but 4 is, of 2's own
	checkModals(t, raised(l, 0, 9, 0, 1, 0), 4, 4, 4, 4, 5)
	checkModals(t, raised(l, 0, 9, 0, 0, 1), 5, 5, 4, 4, 5)
}

// TestModalRings: of things that go round the youngest is nobody's own, all others are its own.
func TestModalRings(t *testing.T) {
	checkModals(t, born(modal(owned(2, 1), 1, 2), 1, 2), 1, 1)
	checkModals(t, born(modal(owned(2, 1), 1, 2), 2, 1), 2, 2)
	checkModals(t, born(modal(owned(2, 1), 1, 2), 5, 5), 1, 1)
	checkModals(t, born(modal(owned(2, 3, 1), 1, 2, 3), 1, 2, 3), 1, 1, 1)
	checkModals(t, born(modal(owned(2, 3, 1), 1, 2, 3), 1, 3, 2), 3, 3, 3)
	checkModals(t, born(modal(owned(2, 3, 1), 3), 1, 3, 2), 3, 3, 3)
	checkModals(t, born(modal(owned(2, 3, 1), 2), 1, 3, 2), 1, 2, 3)
	checkModals(t, born(modal(owned(2, 3, 1, 1), 4), 1, 3, 2, 0), 4, 4, 3, 4)
	checkModals(t, born(modal(owned(2, 3, 1, 1), 4), 1, 2, 3, 9), 4, 4, 4, 4)
	checkModals(t, born(modal(owned(2, 3, 1, 1), 2, 4), 3, 2, 1, 0), 4, 2, 2, 4)
}

// TestModalLong: as many things as there may be, each the one's ahead of it.
func TestModalLong(t *testing.T) {
	for _, n := range list(2, 3, 127, 128) {
		falling, level := allModal(row(n)), allModal(row(n))
		for i := range n {
			falling[i].Raised, level[i].Raised = n-i, 7
		}
		behind := slices.Clone(falling) // the owners behind their own
		slices.Reverse(behind)
		for client := 1; client <= n; client++ {
			checkModal(t, row(n), client, client)
			checkModal(t, modal(row(n), n), client, n)
			for _, l := range [][]api.Item{allModal(row(n)), falling, level, behind} {
				checkModal(t, l, client, n)
			}
			checkModal(t, modal(row(n), 2), client, max(client, 2))
		}
	}
}

func TestChoose(t *testing.T) {
	l := owned(0, 0, 0)
	checkChoose(t, l, list(1, 2, 3), 3)
	checkChoose(t, l, list(3, 2, 1), 1)
	checkChoose(t, l, list(1, 3, 2), 2)
	checkChoose(t, l, list(1, 0, 0), 1)
	checkChoose(t, owned(0), list(0), 1)
	checkChoose(t, []api.Item{{Client: 9}, {Client: 4}, {Client: 7}}, list(1, 5, 3), 4)
	// of those seen at one time the first, whatever it is
	checkChoose(t, l, list(0, 0, 0), 1)
	checkChoose(t, l, list(1, 2, 2), 2)
	checkChoose(t, l, list(2, 1, 2), 1)
	checkChoose(t, []api.Item{{Client: 4}, {Client: 9, Raised: 9, Born: 9, Band: 4}, {Client: 2}}, list(3, 3, 3), 4)
	checkChoose(t, []api.Item{{Client: 9}, {Client: 4}, {Client: 2}}, list(1, 3, 3), 4)
	// numbers of all kinds
	checkChoose(t, l, list(-3, -1, -2), 2)
	checkChoose(t, l, list(-1, -1, -2), 1)
	checkChoose(t, l, list(math.MinInt, math.MinInt, math.MinInt), 1)
	checkChoose(t, l, list(math.MinInt, math.MinInt, math.MinInt+1), 3)
	checkChoose(t, l, list(math.MaxInt-1, math.MaxInt, math.MinInt), 2)
	checkChoose(t, l, list(math.MinInt, 0, math.MaxInt), 3)
	// or a modal one of theirs
	checkChoose(t, chapter(), list(3, 2, 1), 3)
	checkChoose(t, chapter(), list(2, 3, 1), 3)
	checkChoose(t, modal(owned(0, 1, 0), 2), list(9, 1, 5), 2)
	checkChoose(t, modal(owned(0, 1, 0), 2), list(1, 5, 9), 3)
	checkChoose(t, owned(0, 1, 0), list(9, 1, 5), 1)
	checkChoose(t, born(modal(owned(2, 1), 1, 2), 1, 2), list(1, 5), 1)
}

// TestChooseLong: as many things as there may be, the one that was seen last at each place.
func TestChooseLong(t *testing.T) {
	for i := range 128 {
		seen := make([]int, 128)
		seen[i] = 1
		checkChoose(t, owned(make([]int, 128)...), seen, i+1)
	}
}

// TestAfterOwner: what had an owner leaves the focus to it, or to a modal one of the owner's, whoever was seen.
func TestAfterOwner(t *testing.T) {
	for _, seen := range [][]int{list(0, 0, 0, 0), list(1, 2, 3, 4), list(4, 3, 2, 1), list(1, 4, 3, 2), list(-1, -5, -9, -2)} {
		checkAfter(t, owned(0, 1, 0, 0), seen, 2, 1)
		checkAfter(t, owned(0, 1, 2, 3), seen, 2, 1)
		checkAfter(t, owned(0, 1, 2, 3), seen, 3, 2)
		checkAfter(t, owned(0, 1, 2, 3), seen, 4, 3)
		checkAfter(t, owned(4, 0, 0, 0), seen, 1, 4)
		checkAfter(t, modal(owned(0, 1, 0, 0), 2), seen, 2, 1)       // the modal one is gone
		checkAfter(t, modal(owned(0, 1, 1, 1), 2, 3, 4), seen, 2, 4) // others are there
		checkAfter(t, modal(owned(0, 1, 1, 1), 2, 3, 4), seen, 4, 3)
		checkAfter(t, modal(owned(0, 1, 1, 3), 4), seen, 2, 4)
		checkAfter(t, modal(owned(0, 1, 0, 3), 4), seen, 2, 1) // another one's
	}
}

// TestAfterRest: whose own things are counts as it is without the one that is gone.
func TestAfterRest(t *testing.T) {
	for _, seen := range [][]int{list(1, 2, 3), list(3, 2, 1), list(2, 3, 1), list(0, 0, 0)} {
		checkAfter(t, modal(owned(0, 1, 2), 3), seen, 2, 1) // 3 is nobody's any more
		checkAfter(t, modal(owned(0, 1, 2), 2, 3), seen, 2, 1)
		// what went round doesn't any more
		checkAfter(t, allModal(born(owned(2, 3, 1), 1, 2, 3)), seen, 1, 2)
		checkAfter(t, allModal(born(owned(2, 3, 1), 1, 2, 3)), seen, 2, 3)
		checkAfter(t, allModal(born(owned(2, 3, 1), 1, 3, 2)), seen, 1, 2)
		checkAfter(t, allModal(born(owned(2, 3, 1), 1, 3, 2)), seen, 3, 1)
		checkAfter(t, allModal(born(owned(2, 3, 1), 3, 1, 2)), seen, 2, 3)
		checkAfter(t, allModal(born(owned(2, 3, 1), 3, 1, 2)), seen, 3, 1)
	}
	checkAfter(t, modal(owned(0, 1, 2), 3), list(1, 2, 3), 1, 3) // 2 is nobody's any more, and 3 its own
	checkAfter(t, modal(owned(0, 1, 2), 3), list(1, 3, 2), 1, 3)
	checkAfter(t, modal(owned(0, 1, 1), 2, 3), list(1, 9, 3), 1, 2)
}

// TestAfterChoose: what had no owner leaves the focus to who was seen last of the others.
func TestAfterChoose(t *testing.T) {
	l := owned(0, 0, 0)
	checkAfter(t, l, list(1, 2, 3), 3, 2)
	checkAfter(t, l, list(1, 2, 3), 2, 3)
	checkAfter(t, l, list(1, 2, 3), 1, 3)
	checkAfter(t, l, list(9, 2, 3), 1, 3)
	checkAfter(t, l, list(9, 3, 2), 1, 2)
	checkAfter(t, l, list(2, 9, 3), 2, 3)
	checkAfter(t, l, list(3, 9, 3), 2, 1)
	checkAfter(t, l, list(math.MinInt, 0, math.MinInt), 2, 1)
	checkAfter(t, []api.Item{{Client: 9}, {Client: 4}, {Client: 7}}, list(1, 5, 3), 4, 7)
	checkAfter(t, modal(owned(0, 1, 0, 0), 2), list(3, 1, 2, 9), 4, 2) // or a modal one of theirs
	checkAfter(t, modal(owned(0, 1, 0, 0), 2, 3), list(3, 1, 2, 9), 3, 4)
	for _, owner := range list(math.MinInt, -1, 0, 1, 99, math.MaxInt) { // an owner that isn't another one of them is none
		l[0].Owner = owner
		checkAfter(t, l, list(9, 2, 3), 1, 3)
	}
	// nor has the youngest of those that go round one
	checkAfter(t, born(owned(2, 1, 0), 1, 2, 3), list(1, 9, 5), 2, 3)
	checkAfter(t, born(owned(2, 1, 0), 2, 1, 3), list(1, 9, 5), 2, 1)
	checkAfter(t, born(owned(2, 1, 0), 5, 5, 5), list(1, 9, 5), 2, 3)
	checkAfter(t, born(owned(2, 1, 0), 5, 5, 5), list(1, 9, 5), 1, 2)
	checkAfter(t, born(owned(2, 3, 1, 0), 1, 2, 3, 4), list(1, 2, 3, 9), 3, 4)
	checkAfter(t, born(owned(2, 3, 1, 0), 1, 2, 3, 4), list(1, 2, 3, 9), 2, 3)
}

// TestAfterNobody: without the last one there is nobody; and who isn't there takes nobody along.
func TestAfterNobody(t *testing.T) {
	checkAfter(t, owned(0), list(5), 1, 0)
	checkAfter(t, modal(owned(1), 1), list(5), 1, 0)
	checkAfter(t, owned(-1), list(math.MaxInt), 1, 0)
	for _, gone := range list(math.MinInt, -1, 0, 4, 99, math.MaxInt) {
		checkAfter(t, owned(0, 0, 0), list(1, 3, 2), gone, 2)
		checkAfter(t, owned(gone, 0, 0), list(3, 1, 2), gone, 1)
		checkAfter(t, chapter(), list(9, 1, 1), gone, 3)
		checkAfter(t, nil, nil, gone, 0)
	}
	checkAfter(t, []api.Item{{Client: 2}, {Client: 7}}, list(5, 9), 1, 7) // places are no clients
}

// TestAfterLong: as many things as there may be, each of which goes.
func TestAfterLong(t *testing.T) {
	seen := make([]int, 128)
	for i := range seen {
		seen[i] = 2 * i
	}
	for client := 2; client < 128; client++ {
		checkAfter(t, row(128), seen, client, client-1)
		checkAfter(t, allModal(row(128)), seen, client, client-1)
		checkAfter(t, owned(make([]int, 128)...), seen, client, 128)
	}
	checkAfter(t, allModal(row(128)), seen, 1, 128)
	checkAfter(t, row(128), seen, 128, 127)
	checkAfter(t, owned(make([]int, 128)...), seen, 128, 127)
}

// refused holds that of such things nothing is told, but the client that was asked for.
func refused(t *testing.T, l []api.Item) {
	t.Helper()
	for _, client := range list(math.MinInt, -1, 0, 1, 2, 3, 500, math.MaxInt) {
		checkModal(t, l, client, client)
		checkAfter(t, l, make([]int, len(l)), client, 0)
	}
	for _, n := range list(0, 1, max(len(l)-1, 0), len(l), len(l)+1) {
		checkChoose(t, l, make([]int, n), 0)
	}
}

// wrong things may not be stacked, whatever the others are.
func wrong() []api.Item {
	var l []api.Item
	for _, n := range list(math.MinInt, -1) {
		l = append(l, api.Item{Client: n, Owner: 1}, api.Item{Client: 500, Band: n}, api.Item{Client: 500, Raised: n}, api.Item{Client: 500, Born: n})
	}
	return append(l, api.Item{}, api.Item{Client: 500, Band: api.Bands}, api.Item{Client: 500, Band: math.MaxInt}, api.Item{Client: 1}, api.Item{Client: 2}, api.Item{Client: 3})
}

// TestRefused: things that may not be stacked, be it the one that goes that is wrong.
func TestRefused(t *testing.T) {
	for _, it := range wrong() {
		for i := range 4 {
			refused(t, slices.Insert(chapter(), i, it))
		}
	}
	refused(t, make([]api.Item, 1))
	refused(t, make([]api.Item, 2))
	l := allModal(row(129))
	checkModal(t, l, 1, 1)
	checkModal(t, l[:128], 1, 128)
	for _, n := range list(0, 1, 128, 129, 130) {
		checkChoose(t, l, make([]int, n), 0)
		for _, gone := range list(0, 1, 2, 129, 500) { // there are too many, though one of them goes
			checkAfter(t, l, make([]int, n), gone, 0)
		}
	}
	checkChoose(t, make([]api.Item, 100000), make([]int, 100000), 0)
}

// TestSeenRefused: each thing has just one number.
func TestSeenRefused(t *testing.T) {
	for n := range 10 {
		l := owned(make([]int, n)...)
		for seen := range 12 {
			if seen == n {
				continue
			}
			numbers := slices.Repeat(list(5), seen)
			checkChoose(t, l, numbers, 0)
			for gone := range n + 2 { // also where there would be as many, without the one that goes
				checkAfter(t, l, numbers, gone, 0)
			}
		}
		checkChoose(t, l, nil, 0)
		checkAfter(t, l, nil, 1, 0)
	}
	checkAfter(t, owned(0, 1, 1), list(1, 2), 2, 0) // though it has an owner
	checkAfter(t, owned(0, 1, 1), list(1, 2, 3, 4), 2, 0)
	checkChoose(t, nil, nil, 0)
	checkChoose(t, []api.Item{}, []int{}, 0)
	checkChoose(t, nil, list(1), 0)
}
