package window_test

import (
	"fmt"
	"math"
	"testing"

	"casement/api"
	"casement/window"
)

// refusal is a call that is to answer an error.
type refusal struct {
	name string
	want api.Errno
	do   func(w *window.Tree) api.Errno
}

func create(parent int, r api.Rect, want api.Errno) refusal {
	return refusal{fmt.Sprintf("Create(%d, %v)", parent, r), want, func(w *window.Tree) api.Errno {
		id, e := w.Create(parent, r)
		if id != 0 {
			return -1
		}
		return e
	}}
}

func destroy(id int, want api.Errno) refusal {
	return refusal{fmt.Sprintf("Destroy(%d)", id), want, func(w *window.Tree) api.Errno {
		l, e := w.Destroy(id)
		if len(l) != 0 {
			return -1
		}
		return e
	}}
}

func reparent(id, parent int, at api.Point, want api.Errno) refusal {
	return refusal{fmt.Sprintf("Reparent(%d, %d, %v)", id, parent, at), want, func(w *window.Tree) api.Errno { return w.Reparent(id, parent, at) }}
}

func configure(id int, r api.Rect, want api.Errno) refusal {
	return refusal{fmt.Sprintf("Configure(%d, %v)", id, r), want, func(w *window.Tree) api.Errno { return w.Configure(id, r) }}
}

// refused are all calls that change one window, each as it may be, and with all else that may be wrong with it.
func refused(id int, want api.Errno) []refusal {
	l := []refusal{
		destroy(id, want),
		{fmt.Sprintf("Raise(%d)", id), want, func(w *window.Tree) api.Errno { return w.Raise(id) }},
		{fmt.Sprintf("Lower(%d)", id), want, func(w *window.Tree) api.Errno { return w.Lower(id) }},
		{fmt.Sprintf("Map(%d, true)", id), want, func(w *window.Tree) api.Errno { return w.Map(id, true) }},
		{fmt.Sprintf("Map(%d, false)", id), want, func(w *window.Tree) api.Errno { return w.Map(id, false) }},
		configure(id, rect(1, 1, 1, 1), want),
	}
	for _, r := range wrong() {
		l = append(l, configure(id, r, want))
	}
	for _, at := range []api.Point{place(1, 1), place(low-1, 0), place(0, high+1), place(math.MinInt, math.MaxInt)} {
		for _, parent := range []int{0, 1, 3, 9, 10, 11, -1, id, math.MinInt, math.MaxInt} { // no such parent, and itself
			l = append(l, reparent(id, parent, at, want))
		}
	}
	return l
}

// refuses tells whether each call is refused, and changes nothing.
func refuses(t *testing.T, w *window.Tree, l []refusal) {
	t.Helper()
	before := whole(w)
	for _, c := range l {
		if got := c.do(w); got != c.want {
			t.Errorf("%s = %d, not %d", c.name, got, c.want)
		}
	}
	if whole(w) != before {
		t.Errorf("what was refused, %s or what follows, changed the tree", l[0].name)
	}
}

func TestNoTree(t *testing.T) {
	for _, w := range []*window.Tree{nil, {}, new(window.Tree)} {
		for _, id := range append(around(), 1, 9) {
			refuses(t, w, refused(id, api.ErrNil))
			refuses(t, w, []refusal{create(id, rect(0, 0, 1, 1), api.ErrNil), create(id, rect(0, 0, 0, 0), api.ErrNil), create(id, rect(0, 0, -1, 1), api.ErrNil)})
			if one, ok := w.Get(id); one != (api.Window{}) || ok || len(w.Kids(id)) != 0 || w.Viewable(id) {
				t.Errorf("no tree: Get(%d) = %v, %v, Kids %v, Viewable %v", id, one, ok, w.Kids(id), w.Viewable(id))
			}
			if p, ok := w.Abs(id); p != (api.Point{}) || ok {
				t.Errorf("no tree: Abs(%d) = %v, %v", id, p, ok)
			}
			if got, ok := w.Under(place(id, id)); got != 0 || ok {
				t.Errorf("no tree: Under(%d, %d) = %d, %v", id, id, got, ok)
			}
		}
		if n := w.Len(); n != 0 {
			t.Errorf("no tree: Len = %d", n)
		}
	}
}

func TestNoWindow(t *testing.T) {
	w := family(t)
	for _, id := range append(around(), 9, 10, 11, 12) { // 9 and 10 are gone
		if id == 0 {
			continue
		}
		refuses(t, w, refused(id, api.ErrNone))
		refuses(t, w, []refusal{create(id, rect(0, 0, 1, 1), api.ErrNone), create(id, rect(0, 0, -1, 1), api.ErrNone), create(id, rect(math.MaxInt, 0, 1, 1), api.ErrNone)})
		if one, ok := w.Get(id); one != (api.Window{}) || ok || len(w.Kids(id)) != 0 || w.Viewable(id) {
			t.Errorf("Get(%d) = %v, %v, Kids %v, Viewable %v", id, one, ok, w.Kids(id), w.Viewable(id))
		}
		if p, ok := w.Abs(id); p != (api.Point{}) || ok {
			t.Errorf("Abs(%d) = %v, %v", id, p, ok)
		}
	}
	if id := put(t, w, 0, rect(0, 0, 1, 1)); id != 11 {
		t.Errorf("behind what was refused the next number is %d", id)
	}
}

func TestRootMayNotBeChanged(t *testing.T) {
	refuses(t, family(t), refused(0, api.ErrArg))
	refuses(t, tree(t, rect(0, 0, 1, 1)), refused(0, api.ErrArg))
}

func TestCreateOfWrongRectangles(t *testing.T) {
	w := family(t)
	for _, r := range wrong() {
		for id := range inFamily + 1 {
			refuses(t, w, []refusal{create(id, r, api.ErrRect)})
		}
	}
}

// TestCycle: the parent is the window, in it, or in one that is.
func TestCycle(t *testing.T) {
	w := family(t)
	for _, c := range [][2]int{{1, 1}, {1, 2}, {1, 5}, {1, 4}, {1, 8}, {2, 2}, {2, 5}, {5, 5}, {3, 7}, {7, 7}, {6, 6}} {
		for _, at := range []api.Point{place(0, 0), place(low-1, 0), place(0, high+1), place(math.MinInt, math.MaxInt)} {
			refuses(t, w, []refusal{reparent(c[0], c[1], at, api.ErrCycle)})
		}
	}
	chain := tree(t, rect(0, 0, 9, 9))
	for i := range 9 {
		put(t, chain, i, rect(0, 0, 9, 9))
	}
	for a := 1; a <= 9; a++ {
		for b := a; b <= 9; b++ {
			refuses(t, chain, []refusal{reparent(a, b, place(0, 0), api.ErrCycle)})
		}
	}
}

// TestReparentOffThePlane: of the window's size, at that place, the rectangle is not right; where there is no such parent either, that is told.
func TestReparentOffThePlane(t *testing.T) {
	w := family(t)
	for _, c := range []struct{ id, w, h, parent int }{{1, 50, 50, 3}, {2, 20, 20, 1}, {5, 3, 4, 0}, {8, 0, 8, 7}} { // the second one is in its parent already
		for _, at := range []api.Point{
			place(low-1, 0), place(0, low-1), place(high+1, 0), place(0, high+1), place(high+2-max(c.w, 1), 0), place(0, high+2-max(c.h, 1)),
			place(math.MinInt, 0), place(0, math.MinInt), place(math.MaxInt, 0), place(0, math.MaxInt), place(math.MinInt, math.MaxInt),
		} {
			refuses(t, w, []refusal{reparent(c.id, c.parent, at, api.ErrRect), reparent(c.id, 9, at, api.ErrNone), reparent(c.id, -1, at, api.ErrNone), reparent(c.id, 11, at, api.ErrNone)})
		}
		for _, at := range []api.Point{place(low, low), place(high+1-max(c.w, 1), low), place(low, high+1-max(c.h, 1)), place(high+1-max(c.w, 1), high+1-max(c.h, 1))} {
			if e := w.Reparent(c.id, 0, at); e != api.OK {
				t.Errorf("Reparent(%d, 0, %v) = %d", c.id, at, e)
			}
			if one, _ := w.Get(c.id); one.Rect != rect(at.X, at.Y, c.w, c.h) || one.Parent != 0 {
				t.Errorf("Reparent(%d, 0, %v): %v", c.id, at, one)
			}
		}
	}
	refuses(t, w, []refusal{reparent(1, 9, place(0, 0), api.ErrNone), reparent(1, math.MinInt, place(0, 0), api.ErrNone), reparent(1, math.MaxInt, place(0, 0), api.ErrNone)})
}
