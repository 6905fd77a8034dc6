package window_test

import (
	"fmt"
	"math"
	"slices"
	"testing"

	"casement/api"
	"casement/window"
)

const (
	low  = api.Low
	high = api.High
	all  = high + 1 - low // how many places the plane has, one way
	most = api.MaxWindows
)

func rect(x, y, w, h int) api.Rect { return api.Rect{X: x, Y: y, W: w, H: h} }

func place(x, y int) api.Point { return api.Point{X: x, Y: y} }

func tree(t *testing.T, r api.Rect) *window.Tree {
	t.Helper()
	w, e := window.New(r)
	if e != api.OK || w == nil {
		t.Fatalf("New(%v): %v, %d", r, w, e)
	}
	return w
}

func put(t *testing.T, w *window.Tree, parent int, r api.Rect) int {
	t.Helper()
	id, e := w.Create(parent, r)
	if e != api.OK {
		t.Fatalf("Create(%d, %v): %d", parent, r, e)
	}
	return id
}

func done(t *testing.T, name string, e api.Errno) {
	t.Helper()
	if e != api.OK {
		t.Fatalf("%s: %d", name, e)
	}
}

// shown makes a window that is mapped.
func shown(t *testing.T, w *window.Tree, parent int, r api.Rect) int {
	t.Helper()
	id := put(t, w, parent, r)
	done(t, "Map", w.Map(id, true))
	return id
}

// Of the windows of a family 2, 4 and 8 are in 1, 5 in 2, 7 in 3, and 1, 3 and 6 in the root; 9 was in 8, and 10 in 9: they are gone.
const inFamily = 8

// family: 4 is not mapped; 6 reaches out of the root, and 7 out of its parent; 8 has no place.
func family(t *testing.T) *window.Tree {
	t.Helper()
	w := tree(t, rect(0, 0, 100, 100))
	for i, c := range []struct {
		parent int
		r      api.Rect
	}{
		{0, rect(10, 10, 50, 50)}, {1, rect(5, 5, 20, 20)}, {0, rect(30, 30, 40, 40)}, {1, rect(0, 0, 9, 9)}, {2, rect(1, 2, 3, 4)}, {0, rect(-20, 80, 30, 30)}, {3, rect(-5, -5, 10, 10)}, {1, rect(30, 3, 0, 8)}, {8, rect(0, 0, 5, 5)}, {9, rect(0, 0, 5, 5)},
	} {
		if id := shown(t, w, c.parent, c.r); id != i+1 {
			t.Fatalf("the window %d has the number %d", i+1, id)
		}
	}
	done(t, "Map", w.Map(4, false))
	_, e := w.Destroy(9)
	done(t, "Destroy", e)
	return w
}

// whole tells all that a tree of some ten windows tells.
func whole(w *window.Tree) string {
	s := fmt.Sprintln("Len", w.Len())
	for _, id := range append(around(), 1, 2, 3, 4, 5, 6, 7, 8, 9, 10, 11, 12) {
		one, ok := w.Get(id)
		p, in := w.Abs(id)
		s += fmt.Sprintln(id, one, ok, w.Kids(id), w.Viewable(id), p, in)
	}
	for y := -2; y < 103; y += 5 {
		for x := -2; x < 103; x += 5 {
			id, ok := w.Under(place(x, y))
			s += fmt.Sprint(id, ok, " ")
		}
	}
	return s
}

// around are the root, and numbers that are no window's.
func around() []int {
	return []int{math.MinInt, math.MinInt32, -most, -2, -1, 0, most, most + 1, math.MaxInt32, 1 << 32, math.MaxInt}
}

// wrong rectangles are not right.
func wrong() []api.Rect {
	return []api.Rect{
		rect(0, 0, -1, 5), rect(0, 0, 5, -1), rect(0, 0, -1, -1), rect(low-1, 0, 1, 1), rect(0, low-1, 1, 1), rect(low-1, 0, 0, 0), rect(high+1, 0, 0, 0), rect(0, high+1, 0, 0), rect(high+1, 0, 1, 1), rect(0, high+1, 1, 1),
		rect(high, 0, 2, 1), rect(0, high, 1, 2), rect(1, 0, high+1, 1), rect(0, 1, 1, high+1), rect(low, 0, all+1, 1), rect(0, low, 1, all+1), rect(low+1, low, all, all), rect(low, low+1, all, all),
		rect(math.MinInt, 0, 1, 1), rect(0, math.MinInt, 1, 1), rect(math.MaxInt, 0, 1, 1), rect(0, math.MaxInt, 1, 1), rect(0, 0, math.MinInt, 1), rect(0, 0, 1, math.MinInt), rect(0, 0, math.MaxInt, 1), rect(0, 0, 1, math.MaxInt),
		rect(math.MaxInt, 0, math.MinInt, 1), rect(math.MinInt, 0, math.MaxInt, 1), rect(math.MaxInt, math.MaxInt, math.MaxInt, math.MaxInt), rect(math.MinInt, math.MinInt, math.MinInt, math.MinInt),
	}
}

// blank rectangles are right, but have no place.
func blank() []api.Rect {
	return []api.Rect{{}, rect(3, 4, 0, 5), rect(3, 4, 5, 0), rect(high, high, 0, 0), rect(low, low, 0, all), rect(low, low, all, 0), rect(high, low, 0, all)}
}

// large rectangles lie at the plane's edges.
func large() []api.Rect {
	return []api.Rect{rect(0, 0, 1, 1), rect(3, 4, 5, 6), rect(low, low, 1, 1), rect(high, high, 1, 1), rect(low, high, all, 1), rect(high, low, 1, all), rect(low, low, all, all), rect(0, 0, high+1, high+1)}
}

func TestNew(t *testing.T) {
	for _, r := range append(wrong(), blank()...) {
		if w, e := window.New(r); w != nil || e != api.ErrRect {
			t.Errorf("New(%v) = %v, %d", r, w, e)
		}
	}
	for _, r := range large() {
		w := tree(t, r)
		if one, ok := w.Get(0); one != (api.Window{ID: 0, Parent: -1, Rect: r, Mapped: true}) || !ok {
			t.Errorf("New(%v): Get(0) = %v, %v", r, one, ok)
		}
		if k, n := w.Kids(0), w.Len(); len(k) != 0 || n != 0 {
			t.Errorf("New(%v): Kids(0) = %v, Len %d", r, k, n)
		}
		if p, ok := w.Abs(0); p != (api.Point{}) || !ok || !w.Viewable(0) {
			t.Errorf("New(%v): Abs(0) = %v, %v, Viewable %v", r, p, ok, w.Viewable(0))
		}
		for _, id := range []int{-1, 1, 2} {
			if one, ok := w.Get(id); one != (api.Window{}) || ok {
				t.Errorf("New(%v): Get(%d) = %v, %v", r, id, one, ok)
			}
		}
	}
}

func TestCreate(t *testing.T) {
	w := tree(t, rect(7, 8, 100, 100))
	for i, c := range []struct {
		parent int
		r      api.Rect
	}{
		{0, rect(1, 2, 3, 4)}, {0, rect(1, 2, 3, 4)}, {1, rect(-5, -6, 700, 800)}, {3, rect(0, 0, 1, 1)}, {4, rect(9, 9, 9, 9)}, {0, rect(500, 500, 1, 1)}, {1, rect(3, 3, 0, 0)}, {7, rect(1, 1, 1, 1)},
	} {
		before := w.Kids(c.parent)
		id := put(t, w, c.parent, c.r)
		if id != i+1 || w.Len() != i+1 {
			t.Errorf("the window %d has the number %d; Len %d", i+1, id, w.Len())
		}
		if one, ok := w.Get(id); one != (api.Window{ID: id, Parent: c.parent, Rect: c.r}) || !ok {
			t.Errorf("Get(%d) = %v, %v", id, one, ok)
		}
		if got, want := w.Kids(c.parent), append(before, id); !slices.Equal(got, want) {
			t.Errorf("Kids(%d) = %v, not %v", c.parent, got, want)
		}
		if w.Viewable(id) || len(w.Kids(id)) != 0 {
			t.Errorf("Viewable(%d) = %v, Kids %v", id, w.Viewable(id), w.Kids(id))
		}
	}
	for _, r := range append(large(), blank()...) {
		if one, ok := w.Get(put(t, w, 5, r)); one.Rect != r || one.Mapped || !ok {
			t.Errorf("Create(5, %v): %v, %v", r, one, ok)
		}
	}
}

// TestNumbers: behind what is refused, and what is gone, the next number is how many were ever made.
func TestNumbers(t *testing.T) {
	w := tree(t, rect(0, 0, 9, 9))
	for i := range 3*most + 5 {
		w.Create(i+1, rect(0, 0, 1, 1)) // not made yet
		w.Create(0, rect(0, 0, -1, 1))
		w.Create(-1, rect(0, 0, 1, 1))
		if id := put(t, w, 0, rect(0, 0, 1, 1)); id != i+1 {
			t.Fatalf("the window %d has the number %d", i+1, id)
		}
		if i%7 != 3 {
			_, e := w.Destroy(i + 1)
			done(t, "Destroy", e)
		}
	}
}

// gone is not to be told by any call.
func gone(t *testing.T, w *window.Tree, ids ...int) {
	t.Helper()
	for _, id := range ids {
		one, ok := w.Get(id)
		p, in := w.Abs(id)
		if one != (api.Window{}) || ok || len(w.Kids(id)) != 0 || w.Viewable(id) || p != (api.Point{}) || in {
			t.Errorf("%d is gone: Get %v, %v, Kids %v, Viewable %v, Abs %v, %v", id, one, ok, w.Kids(id), w.Viewable(id), p, in)
		}
	}
}

// kids holds the order of those in a window.
func kids(t *testing.T, w *window.Tree, id int, want ...int) {
	t.Helper()
	if got := w.Kids(id); !slices.Equal(got, want) {
		t.Errorf("Kids(%d) = %v, not %v", id, got, want)
	}
}

func TestDestroy(t *testing.T) {
	for _, c := range []struct {
		id, parent int
		want, left []int
	}{
		{1, 0, []int{5, 2, 4, 8, 1}, []int{3, 6}}, {2, 1, []int{5, 2}, []int{4, 8}}, {3, 0, []int{7, 3}, []int{1, 6}}, {4, 1, []int{4}, []int{2, 8}},
		{5, 2, []int{5}, nil}, {6, 0, []int{6}, []int{1, 3}}, {7, 3, []int{7}, nil}, {8, 1, []int{8}, []int{2, 4}},
	} {
		w := family(t)
		if got, e := w.Destroy(c.id); e != api.OK || !slices.Equal(got, c.want) {
			t.Errorf("Destroy(%d) = %v, %d, not %v", c.id, got, e, c.want)
		}
		kids(t, w, c.parent, c.left...)
		gone(t, w, c.want...)
		if n := w.Len(); n != inFamily-len(c.want) {
			t.Errorf("behind Destroy(%d): Len = %d", c.id, n)
		}
	}
}

// TestDestroyInOrder: those in one go from the lowest, as they stand then, not as they came.
func TestDestroyInOrder(t *testing.T) {
	w := family(t)
	done(t, "Lower", w.Lower(8))
	done(t, "Raise", w.Raise(2))
	done(t, "Reparent", w.Reparent(3, 8, place(0, 0)))
	done(t, "Reparent", w.Reparent(6, 8, place(0, 0)))
	done(t, "Lower", w.Lower(6))
	if got, e := w.Destroy(1); e != api.OK || !slices.Equal(got, []int{6, 7, 3, 8, 4, 5, 2, 1}) {
		t.Errorf("Destroy(1) = %v, %d", got, e)
	}
	kids(t, w, 0)
	gone(t, w, 1, 2, 3, 4, 5, 6, 7, 8)
	if id := put(t, w, 0, rect(0, 0, 1, 1)); id != 11 || w.Len() != 1 {
		t.Errorf("the next window has the number %d; Len %d", id, w.Len())
	}
}

func TestReparent(t *testing.T) {
	for _, c := range []struct {
		id, parent  int
		left, there []int
	}{
		{1, 3, []int{3, 6}, []int{7, 1}}, {1, 7, []int{3, 6}, []int{1}}, {1, 6, []int{3, 6}, []int{1}}, {2, 0, []int{4, 8}, []int{1, 3, 6, 2}}, {5, 0, nil, []int{1, 3, 6, 5}}, {5, 1, nil, []int{2, 4, 8, 5}},
		{3, 4, []int{1, 6}, []int{3}}, {7, 8, nil, []int{7}}, {4, 2, []int{2, 8}, []int{5, 4}}, {8, 5, []int{2, 4}, []int{8}},
		{1, 0, []int{3, 6, 1}, []int{3, 6, 1}}, {6, 0, []int{1, 3, 6}, []int{1, 3, 6}}, {2, 1, []int{4, 8, 2}, []int{4, 8, 2}}, {5, 2, []int{5}, []int{5}}, // the parent stays
	} {
		w := family(t)
		before, _ := w.Get(c.id)
		own := w.Kids(c.id)
		done(t, "Reparent", w.Reparent(c.id, c.parent, place(-3, 17)))
		want := before
		want.Parent, want.Rect.X, want.Rect.Y = c.parent, -3, 17
		if got, ok := w.Get(c.id); got != want || !ok {
			t.Errorf("Reparent(%d, %d): %v, not %v", c.id, c.parent, got, want)
		}
		kids(t, w, before.Parent, c.left...)
		kids(t, w, c.parent, c.there...)
		kids(t, w, c.id, own...)
		if n := w.Len(); n != inFamily {
			t.Errorf("Reparent(%d, %d): Len = %d", c.id, c.parent, n)
		}
	}
}

// TestThereAndBack: what was in a window may have it in itself, once it has left it.
func TestThereAndBack(t *testing.T) {
	w := family(t)
	done(t, "Reparent", w.Reparent(2, 0, place(1, 1)))
	done(t, "Reparent", w.Reparent(1, 5, place(2, 2)))
	kids(t, w, 0, 3, 6, 2)
	kids(t, w, 5, 1)
	kids(t, w, 1, 4, 8)
	if p, ok := w.Abs(4); p != place(1+1+2+0, 1+2+2+0) || !ok {
		t.Errorf("Abs(4) = %v, %v", p, ok)
	}
	if e := w.Reparent(2, 8, place(0, 0)); e != api.ErrCycle {
		t.Errorf("Reparent(2, 8) = %d", e)
	}
}

func TestConfigure(t *testing.T) {
	for _, r := range append(large(), blank()...) {
		for id := 1; id <= inFamily; id++ {
			w := family(t)
			want, _ := w.Get(id)
			order, own := w.Kids(want.Parent), w.Kids(id)
			want.Rect = r
			done(t, "Configure", w.Configure(id, r))
			if got, ok := w.Get(id); got != want || !ok {
				t.Errorf("Configure(%d, %v): %v, not %v", id, r, got, want)
			}
			kids(t, w, want.Parent, order...)
			kids(t, w, id, own...)
		}
	}
}

func TestRaiseAndLower(t *testing.T) {
	w := family(t)
	for i, c := range []struct {
		do    func(id int) api.Errno
		id    int
		order []int
	}{
		{w.Raise, 1, []int{3, 6, 1}}, {w.Raise, 1, []int{3, 6, 1}}, {w.Raise, 6, []int{3, 1, 6}}, {w.Raise, 3, []int{1, 6, 3}}, {w.Lower, 3, []int{3, 1, 6}}, {w.Lower, 3, []int{3, 1, 6}}, {w.Lower, 1, []int{1, 3, 6}}, {w.Lower, 6, []int{6, 1, 3}},
		{w.Raise, 5, []int{6, 1, 3}}, {w.Lower, 7, []int{6, 1, 3}}, {w.Raise, 2, []int{6, 1, 3}}, // others' order is theirs
	} {
		if e := c.do(c.id); e != api.OK {
			t.Errorf("step %d: %d", i, e)
		}
		if got := w.Kids(0); !slices.Equal(got, c.order) {
			t.Errorf("step %d: %v, not %v", i, got, c.order)
		}
	}
	kids(t, w, 1, 4, 8, 2)
	kids(t, w, 2, 5)
	kids(t, w, 3, 7)
	if one, _ := w.Get(2); one != (api.Window{ID: 2, Parent: 1, Rect: rect(5, 5, 20, 20), Mapped: true}) {
		t.Errorf("raised: %v", one)
	}
	if one, _ := w.Get(4); one != (api.Window{ID: 4, Parent: 1, Rect: rect(0, 0, 9, 9)}) {
		t.Errorf("one beside what was raised: %v", one)
	}
}

func TestMap(t *testing.T) {
	w := family(t)
	for i, on := range []bool{true, true, false, false, true} {
		done(t, "Map", w.Map(4, on))
		if one, ok := w.Get(4); one != (api.Window{ID: 4, Parent: 1, Rect: rect(0, 0, 9, 9), Mapped: on}) || !ok {
			t.Errorf("step %d: %v, %v", i, one, ok)
		}
		kids(t, w, 1, 2, 4, 8)
	}
	before := whole(w)
	done(t, "Map", w.Map(1, false))
	if one, _ := w.Get(2); !one.Mapped { // it is mapped, in one that isn't
		t.Errorf("Map(1, false): %v", one)
	}
	done(t, "Map", w.Map(1, true))
	if whole(w) != before {
		t.Error("hidden and shown again, it is not as it was")
	}
}

func TestViewable(t *testing.T) {
	w := family(t)
	looks := func(name string, want ...int) {
		t.Helper()
		var got []int
		for id := -1; id <= inFamily+3; id++ {
			if w.Viewable(id) {
				got = append(got, id)
			}
		}
		if !slices.Equal(got, want) {
			t.Errorf("%s: %v are viewable, not %v", name, got, want)
		}
	}
	looks("at first", 0, 1, 2, 3, 5, 6, 7, 8) // nor does one without places have to be seen
	done(t, "Map", w.Map(2, false))
	looks("2 hidden", 0, 1, 3, 6, 7, 8)
	done(t, "Map", w.Map(1, false))
	looks("1 and 2 hidden", 0, 3, 6, 7)
	done(t, "Map", w.Map(2, true))
	looks("1 hidden", 0, 3, 6, 7)
	done(t, "Reparent", w.Reparent(2, 0, place(0, 0)))
	looks("2 in the root", 0, 2, 3, 5, 6, 7)
	done(t, "Reparent", w.Reparent(3, 4, place(0, 0)))
	looks("3 in 4", 0, 2, 5, 6)
	done(t, "Map", w.Map(4, true))
	looks("4 shown, in 1", 0, 2, 5, 6)
	done(t, "Map", w.Map(1, true))
	looks("1 shown", 0, 1, 2, 3, 4, 5, 6, 7, 8)
	_, e := w.Destroy(4)
	done(t, "Destroy", e)
	looks("4 gone", 0, 1, 2, 5, 6, 8)
}

func TestAbs(t *testing.T) {
	for _, r := range large() { // where the root is counts for nothing
		w := tree(t, r)
		for _, c := range []struct {
			parent int
			r      api.Rect
			want   api.Point
		}{
			{0, rect(10, 20, 5, 5), place(10, 20)}, {1, rect(1, -2, 9, 9), place(11, 18)}, {2, rect(-40, 7, 0, 0), place(-29, 25)}, {0, rect(low, high, 1, 1), place(low, high)}, {4, rect(low, high, 1, 1), place(2*low, 2*high)}, {5, rect(high, low, 1, 1), place(2*low+high, 2*high+low)}, {1, rect(0, 0, 1, 1), place(10, 20)},
		} {
			id := put(t, w, c.parent, c.r)
			if got, ok := w.Abs(id); got != c.want || !ok {
				t.Errorf("Abs(%d) = %v, %v, not %v", id, got, ok, c.want)
			}
		}
		done(t, "Configure", w.Configure(1, rect(-1, -1, 7, 7)))
		done(t, "Reparent", w.Reparent(5, 3, place(4, 4)))
		for id, want := range []api.Point{{}, place(-1, -1), place(0, -3), place(-40, 4), place(low, high), place(-36, 8), place(-36+high, 8+low), place(-1, -1)} {
			if got, ok := w.Abs(id); got != want || !ok {
				t.Errorf("moved: Abs(%d) = %v, %v, not %v", id, got, ok, want)
			}
		}
	}
}

// seen tells whether each place has its window: -1 stands for none.
func seen(t *testing.T, name string, w *window.Tree, want map[api.Point]int) {
	t.Helper()
	for p, id := range want {
		got, ok := w.Under(p)
		if ok != (id >= 0) || got != max(id, 0) {
			t.Errorf("%s: Under(%v) = %d, %v, not %d", name, p, got, ok, id)
		}
	}
}

func TestUnder(t *testing.T) {
	w := family(t)
	seen(t, "the root", w, map[api.Point]int{
		place(0, 0): 0, place(99, 0): 0, place(99, 99): 0, place(0, 79): 0, place(100, 0): -1, place(0, 100): -1, place(100, 100): -1, place(-1, 0): -1, place(0, -1): -1, place(-1, 85): -1, place(5, 105): -1,
		place(math.MinInt, 0): -1, place(0, math.MaxInt): -1, place(math.MaxInt, math.MinInt): -1, place(math.MaxInt, math.MaxInt): -1, place(low, high): -1,
	})
	seen(t, "windows", w, map[api.Point]int{
		place(10, 10): 1, place(9, 10): 0, place(10, 9): 0, place(59, 10): 1, place(60, 10): 0, place(10, 59): 1, place(10, 60): 0, // 4 is not mapped
		place(0, 80): 6, place(9, 80): 6, place(10, 80): 0, place(0, 99): 6, // 6 reaches out of the root
		place(29, 59): 1, place(30, 59): 3, place(69, 69): 3, place(70, 69): 0, place(59, 59): 3, // 1 and 3 have these in common
		place(15, 15): 2, place(14, 15): 1, place(29, 29): 2, place(34, 29): 2, place(35, 29): 1, place(15, 34): 2, place(16, 17): 5, place(18, 20): 5, place(19, 20): 2, place(18, 21): 2, place(15, 17): 2, place(16, 16): 2,
		place(30, 30): 7, place(34, 34): 7, place(35, 34): 3, place(34, 35): 3, place(29, 30): 2, place(25, 25): 2, place(30, 29): 2, // 7 has some that 3 has not
		place(40, 14): 1, // 8 has no place
	})
	done(t, "Map", w.Map(4, true))
	seen(t, "4 shown", w, map[api.Point]int{place(10, 10): 4, place(18, 18): 4, place(19, 18): 2, place(16, 17): 4, place(18, 19): 5, place(15, 15): 4})
	done(t, "Raise", w.Raise(2))
	seen(t, "2 the highest in 1", w, map[api.Point]int{place(10, 10): 4, place(18, 18): 5, place(15, 15): 2, place(16, 17): 5, place(30, 30): 7})
	done(t, "Lower", w.Lower(3))
	seen(t, "3 the lowest", w, map[api.Point]int{place(30, 30): 2, place(34, 34): 2, place(35, 35): 1, place(59, 59): 1, place(60, 60): 3})
	done(t, "Map", w.Map(2, false))
	seen(t, "2 hidden, with all in it", w, map[api.Point]int{place(16, 17): 4, place(19, 19): 1, place(34, 34): 1})
	done(t, "Map", w.Map(1, false))
	seen(t, "1 hidden, with all in it", w, map[api.Point]int{place(10, 10): 0, place(16, 17): 0, place(30, 30): 7, place(59, 59): 3})
}

// TestUnderOfWindowsWithoutPlaces: nothing in them is seen, nor does it hide what is below.
func TestUnderOfWindowsWithoutPlaces(t *testing.T) {
	for _, r := range append(blank(), rect(0, 0, 0, 9), rect(0, 0, 9, 0)) {
		w := tree(t, rect(0, 0, 9, 9))
		shown(t, w, 0, rect(1, 1, 5, 5))
		shown(t, w, 0, r)
		shown(t, w, 2, rect(low, low, all, all))
		shown(t, w, 1, r)
		shown(t, w, 4, rect(low, low, all, all))
		for y := range 9 {
			for x := range 9 {
				want := 0
				if 1 <= x && x < 6 && 1 <= y && y < 6 {
					want = 1
				}
				seen(t, fmt.Sprint(r), w, map[api.Point]int{place(x, y): want})
			}
		}
	}
}

// TestUnderCountsFromTheCorner: neither the root's own place counts, nor do the plane's edges bound what is counted from its corner.
func TestUnderCountsFromTheCorner(t *testing.T) {
	for _, corner := range []api.Point{place(0, 0), place(50, -50), place(low, low), place(high-9, high-9)} {
		w := tree(t, rect(corner.X, corner.Y, 10, 10))
		shown(t, w, 0, rect(2, 3, 4, 4))
		shown(t, w, 1, rect(1, 1, 1, 1))
		seen(t, fmt.Sprint(corner), w, map[api.Point]int{place(0, 0): 0, place(9, 9): 0, place(10, 9): -1, place(9, 10): -1, place(-1, 0): -1, place(0, -1): -1, place(2, 3): 1, place(5, 6): 1, place(6, 6): 0, place(3, 4): 2, place(4, 4): 1, place(3, 5): 1})
	}
	w := tree(t, rect(low, low, all, all))
	seen(t, "all of the plane", w, map[api.Point]int{place(0, 0): 0, place(high, high): 0, place(high+1, 0): 0, place(all-1, all-1): 0, place(all, 0): -1, place(0, all): -1, place(-1, 0): -1, place(low, low): -1})
	shown(t, w, 0, rect(low, low, all, all))
	seen(t, "as much in it", w, map[api.Point]int{place(0, 0): 1, place(high, high): 1, place(high+1, 0): 0, place(0, high+1): 0, place(all-1, all-1): 0})
	shown(t, w, 1, rect(low, low, all, all))
	seen(t, "and in that", w, map[api.Point]int{place(0, 0): 1, place(high, high): 1})
	done(t, "Configure", w.Configure(1, rect(0, 0, high+1, high+1)))
	seen(t, "and moved", w, map[api.Point]int{place(0, 0): 2, place(high, high): 2, place(high+1, 0): 0})
	done(t, "Configure", w.Configure(2, rect(high, high, 1, 1)))
	seen(t, "at the end", w, map[api.Point]int{place(0, 0): 1, place(high, high): 2, place(high, high-1): 1})
}

// full makes as many windows as there may be: parentOf tells where each is put.
func full(t *testing.T, w *window.Tree, r api.Rect, parentOf func(n int) int) {
	t.Helper()
	for n := range most {
		if id := shown(t, w, parentOf(n), r); id != n+1 || w.Len() != n+1 {
			t.Fatalf("the window %d has the number %d; Len %d", n+1, id, w.Len())
		}
	}
}

// noMore tells whether one more is refused, wherever it is put, behind the other errors.
func noMore(t *testing.T, w *window.Tree, in ...int) {
	t.Helper()
	for _, id := range in {
		if n, e := w.Create(id, rect(0, 0, 1, 1)); n != 0 || e != api.ErrLimit {
			t.Errorf("one more in %d: %d, %d", id, n, e)
		}
		if n, e := w.Create(id, rect(0, 0, -1, 1)); n != 0 || e != api.ErrRect {
			t.Errorf("one more that is not right: %d, %d", n, e)
		}
	}
	for _, r := range []api.Rect{rect(0, 0, 1, 1), rect(0, 0, -1, 1)} {
		if n, e := w.Create(math.MaxInt, r); n != 0 || e != api.ErrNone {
			t.Errorf("one more in none: %d, %d", n, e)
		}
	}
	if n := w.Len(); n != most {
		t.Errorf("Len = %d", n)
	}
}

func TestMostWindowsBesideEachOther(t *testing.T) {
	w := tree(t, rect(0, 0, 9, 9))
	full(t, w, rect(0, 0, 1, 1), func(int) int { return 0 })
	noMore(t, w, 0, 1, most)
	seen(t, "many", w, map[api.Point]int{place(0, 0): most, place(1, 1): 0})
	if l, e := w.Destroy(500); e != api.OK || !slices.Equal(l, []int{500}) || w.Len() != most-1 {
		t.Errorf("Destroy(500) = %v, %d, Len %d", l, e, w.Len())
	}
	if id := put(t, w, 1, rect(0, 0, 1, 1)); id != most+1 {
		t.Errorf("one again: %d", id)
	}
	noMore(t, w, 0, 1, most+1)
	done(t, "Lower", w.Lower(700))
	done(t, "Raise", w.Raise(2))
	k := w.Kids(0)
	if len(k) != most-1 || k[0] != 700 || k[1] != 1 || k[2] != 3 || k[most-2] != 2 {
		t.Errorf("%d windows: %v", len(k), k)
	}
}

func TestMostWindowsInEachOther(t *testing.T) {
	w := tree(t, rect(0, 0, 9, 9))
	full(t, w, rect(0, 0, 5, 5), func(n int) int { return n })
	noMore(t, w, 0, 1, most)
	seen(t, "in each other", w, map[api.Point]int{place(4, 4): most, place(5, 4): 0})
	if e := w.Reparent(1, most, place(0, 0)); e != api.ErrCycle {
		t.Errorf("the first in the last: %d", e)
	}
	for n := 1; n <= most; n++ {
		done(t, "Configure", w.Configure(n, rect(high, low, 1, 1)))
	}
	if p, ok := w.Abs(most); p != place(most*high, most*low) || !ok || !w.Viewable(most) {
		t.Errorf("Abs(%d) = %v, %v, Viewable %v", most, p, ok, w.Viewable(most))
	}
	done(t, "Map", w.Map(1, false))
	if w.Viewable(most) {
		t.Error("the last is viewable, the first hidden")
	}
	l, e := w.Destroy(1)
	if e != api.OK || len(l) != most || w.Len() != 0 || len(w.Kids(0)) != 0 {
		t.Errorf("Destroy(1): %d windows, %d; Len %d, Kids %v", len(l), e, w.Len(), w.Kids(0))
	}
	for i, id := range l {
		if id != most-i {
			t.Fatalf("Destroy(1): %d at %d", id, i)
		}
	}
	for n := range most {
		if id := put(t, w, 0, rect(0, 0, 1, 1)); id != most+n+1 {
			t.Fatalf("window %d again: %d", n, id)
		}
	}
	noMore(t, w, 0, 2*most)
}

// spoil writes over an answer, and into its spare room.
func spoil(l []int) {
	l = l[:cap(l)]
	for i := range l {
		l[i] = -7
	}
}

func TestMemoryOfAnswers(t *testing.T) {
	w := family(t)
	before := whole(w)
	for id := range inFamily + 1 {
		first, second := w.Kids(id), w.Kids(id)
		want := slices.Clone(second)
		spoil(first)
		if !slices.Equal(second, want) {
			t.Errorf("two answers of Kids(%d) share memory", id)
		}
		spoil(second)
	}
	if whole(w) != before {
		t.Error("what Kids answered is the tree's own")
	}
	k := w.Kids(0)
	done(t, "Lower", w.Lower(6))
	done(t, "Raise", w.Raise(1))
	done(t, "Reparent", w.Reparent(2, 0, place(0, 0)))
	ended, e := w.Destroy(1)
	if e != api.OK || !slices.Equal(k, []int{1, 3, 6}) || !slices.Equal(ended, []int{4, 8, 1}) {
		t.Errorf("an answer changed later: %v; %v, %d", k, ended, e)
	}
	before = whole(w)
	again, e := w.Destroy(2)
	spoil(ended)
	if e != api.OK || !slices.Equal(again, []int{5, 2}) {
		t.Errorf("two answers of Destroy share memory: %v, %d", again, e)
	}
	spoil(again)
	kids(t, w, 0, 6, 3)
	kids(t, w, 3, 7)
	if whole(w) == before {
		t.Error("nothing ended")
	}
	for n := range 5 { // what was room of those that are gone
		put(t, w, 3, rect(n, 0, 1, 1))
	}
	kids(t, w, 3, 7, 11, 12, 13, 14, 15)
}

// TestTwoTrees: one is not changed with the other.
func TestTwoTrees(t *testing.T) {
	a, b := family(t), family(t)
	before := whole(b)
	_, e := a.Destroy(1)
	done(t, "Destroy", e)
	done(t, "Map", a.Map(3, false))
	done(t, "Lower", a.Lower(6))
	done(t, "Configure", a.Configure(7, rect(0, 0, 1, 1)))
	put(t, a, 0, rect(0, 0, 1, 1))
	put(t, a, 0, rect(0, 0, 1, 1))
	if whole(b) != before {
		t.Error("a tree was changed with another one")
	}
	if id := put(t, b, 0, rect(0, 0, 1, 1)); id != 11 {
		t.Errorf("a tree counts another one's windows: %d", id)
	}
}

func TestExample(t *testing.T) {
	w := tree(t, rect(0, 0, 100, 100))
	shown(t, w, 0, rect(10, 10, 50, 50))
	shown(t, w, 1, rect(5, 5, 50, 50))
	if p, ok := w.Abs(2); p != place(15, 15) || !ok {
		t.Errorf("Abs(2) = %v, %v", p, ok)
	}
	seen(t, "the example", w, map[api.Point]int{place(20, 20): 2, place(12, 12): 1, place(61, 61): 0})
	if e := w.Reparent(1, 2, place(0, 0)); e != api.ErrCycle {
		t.Errorf("Reparent(1, 2) = %d", e)
	}
}
