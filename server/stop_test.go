package server_test

import (
	"slices"
	"testing"

	"casement/api"
	"casement/server"
)

// TestStop: what is saved stands where it was seen, above all else; the manager's is gone, with what is in it.
func TestStop(t *testing.T) {
	s := family(t)
	done(t, s, 1, setting(7, named("A", "seven")))
	done(t, s, 1, ask(api.ReqUnmap, 7))
	if e := s.Stop(); e != api.OK {
		t.Fatalf("Stop = %d", e)
	}
	gone(t, s, 3, 6)
	kids(t, s, 0, 1, 10, 4, 7)
	stands(t, s, 1, 0, rect(10, 10, 50, 50), true)
	stands(t, s, 2, 1, rect(5, 5, 20, 20), true)
	stands(t, s, 4, 0, rect(32, 33, 10, 10), true)
	stands(t, s, 5, 4, rect(1, 1, 5, 5), true)
	stands(t, s, 7, 0, rect(33, 34, 9, 9), false) // mapped or not as it was
	stands(t, s, 8, 4, rect(2, 2, 8, 8), true)
	stands(t, s, 9, 2, rect(4, 4, 7, 7), true)
	stands(t, s, 10, 0, rect(80, 0, 6, 6), false)
	kids(t, s, 4, 5, 8)
	told(t, s)
	focused(t, s, 2)
	for id, want := range map[int]int{1: 1, 2: 1, 4: 2, 5: 2, 7: 1, 8: 1, 9: 2, 10: 1} {
		if maker, ok := s.Owner(id); maker != want || !ok {
			t.Errorf("Owner(%d) = %d, %v, not %d", id, maker, ok, want)
		}
	}
	if p, ok := s.Prop(7, "A"); p != named("A", "seven") || !ok {
		t.Errorf("Prop(7, A) = %v, %v", p, ok)
	}
}

// TestStopForgetsWhatWasSaved: behind the next Start nothing is.
func TestStopForgetsWhatWasSaved(t *testing.T) {
	s := family(t)
	s.Stop()
	s.Start()
	frame := shown(t, s, manager, 0, rect(0, 0, 50, 50))
	done(t, s, manager, putting(4, frame, 0, 0))
	done(t, s, manager, putting(7, frame, 0, 0))
	done(t, s, manager, saving(7, 1))
	done(t, s, manager, ask(api.ReqRaise, 1))
	s.Stop()
	gone(t, s, frame, 4, 5, 8)
	kids(t, s, 0, 10, 1, 7)
	stands(t, s, 7, 0, rect(0, 0, 9, 9), true)
}

// TestStopRaisesWhatIsSaved, by rising numbers, also what is in the root already, and in whichever order it was saved.
func TestStopRaisesWhatIsSaved(t *testing.T) {
	s := display(t, rect(0, 0, 100, 100))
	for n := range 12 {
		shown(t, s, 1, 0, rect(n, n, 5, 5))
	}
	for _, id := range []int{11, 2, 9, 4, 1} {
		done(t, s, manager, saving(id, 1))
	}
	for _, id := range []int{9, 3, 11} {
		done(t, s, manager, ask(api.ReqRaise, id))
	}
	done(t, s, manager, ask(api.ReqLower, 12))
	s.Stop()
	kids(t, s, 0, 12, 5, 6, 7, 8, 10, 3, 1, 2, 4, 9, 11)
	for n := range 12 {
		stands(t, s, n+1, 0, rect(n, n, 5, 5), true)
	}
}

// TestStopTakesSavedOutOfSaved: each goes to the root, also from another one that goes there, and it stays where it is.
func TestStopTakesSavedOutOfSaved(t *testing.T) {
	for _, c := range []struct{ inner, outer int }{{1, 2}, {2, 1}} {
		s := display(t, rect(-50, -60, 100, 100)) // Abs does not count the root's own corner
		frame := 3
		for n := range 3 {
			if id := shown(t, s, (n+1)%3, 0, rect(n, n, 30, 30)); id != n+1 {
				t.Fatalf("the number %d", id)
			}
		}
		done(t, s, manager, moving(frame, rect(7, 8, 60, 60)))
		done(t, s, manager, putting(c.outer, frame, 1, 2))
		done(t, s, manager, putting(c.inner, c.outer, 3, 5))
		done(t, s, manager, saving(1, 1))
		done(t, s, manager, saving(2, 1))
		s.Stop()
		gone(t, s, frame)
		kids(t, s, 0, 1, 2)
		kids(t, s, c.outer)
		stands(t, s, c.outer, 0, rect(8, 10, 30, 30), true)
		stands(t, s, c.inner, 0, rect(11, 15, 30, 30), true)
	}
}

// nested is a display in which a saved window of client 1 stands in so many of the manager's.
func nested(t *testing.T, around []api.Point, at api.Rect) (*server.Server, int) {
	t.Helper()
	s := display(t, rect(0, 0, 100, 100))
	id := shown(t, s, 1, 0, at)
	parent := 0
	for _, p := range around {
		parent = shown(t, s, manager, parent, rect(p.X, p.Y, 1, 1))
	}
	done(t, s, manager, putting(id, parent, at.X, at.Y))
	done(t, s, manager, saving(id, 1))
	return s, id
}

// TestStopAtThePlanesEdge: where a window is beyond it, it goes as far as it may.
func TestStopAtThePlanesEdge(t *testing.T) {
	deep := slices.Repeat([]api.Point{place(high, low)}, 900)
	for _, c := range []struct {
		around []api.Point
		at     api.Rect
		want   api.Rect
	}{
		{nil, rect(3, 4, 5, 6), rect(3, 4, 5, 6)},
		{[]api.Point{place(-9, -9)}, rect(3, 4, 5, 6), rect(-6, -5, 5, 6)},
		{[]api.Point{place(30000, 0)}, rect(30000, 0, 10, 10), rect(high-9, 0, 10, 10)},
		{[]api.Point{place(0, 30000)}, rect(0, 30000, 10, 10), rect(0, high-9, 10, 10)},
		{[]api.Point{place(30000, -3)}, rect(high-30009, 0, 10, 10), rect(high-9, -3, 10, 10)},     // just as far as it goes
		{[]api.Point{place(30000, -3)}, rect(high-30008, 0, 10, 10), rect(high-9, -3, 10, 10)},     // one farther
		{[]api.Point{place(-30000, -30000)}, rect(-2768, -2769, 4, 4), rect(low, low, 4, 4)},       // just as far, and one farther
		{[]api.Point{place(-30000, -30000)}, rect(-2767, -30000, 4, 4), rect(low+1, low, 4, 4)},    // not as far
		{[]api.Point{place(30000, 30000)}, rect(2767, 2768, 0, 0), rect(high, high, 0, 0)},         // without places it still begins on the plane
		{[]api.Point{place(30000, -30000)}, rect(30000, -30000, 0, 7), rect(high, low, 0, 7)},      // so, too
		{[]api.Point{place(9, -9)}, rect(low, low, all, all), rect(low, low, all, all)},            // as great as the plane
		{[]api.Point{place(9, 9)}, rect(low, low, all-3, all-9), rect(low+3, low+9, all-3, all-9)}, // three and nine less
		{deep, rect(0, 0, 3, 3), rect(high-2, low, 3, 3)},
		{append(slices.Clone(deep), slices.Repeat([]api.Point{place(-high, -low-1)}, 100)...), rect(0, 0, 3, 3), rect(high-2, low, 3, 3)},
		{[]api.Point{place(high, low), place(-high, high), place(5, 6)}, rect(1, 1, 3, 3), rect(6, 6, 3, 3)},
	} {
		s, id := nested(t, c.around, c.at)
		s.Stop()
		stands(t, s, id, 0, c.want, true)
		kids(t, s, 0, id)
	}
}

// TestStopOneByOne: each is put where it is when its turn comes. What is in one that had to stay on the plane has moved with it.
func TestStopOneByOne(t *testing.T) {
	s, outer := nested(t, []api.Point{place(30000, 0)}, rect(30000, 0, 10, 10))
	inner := shown(t, s, 1, outer, rect(-5, 1, 2, 2))
	done(t, s, manager, saving(inner, 1))
	s.Stop()
	stands(t, s, outer, 0, rect(high-9, 0, 10, 10), true)
	stands(t, s, inner, 0, rect(high-14, 1, 2, 2), true)

	s = display(t, rect(0, 0, 100, 100))
	inner = shown(t, s, 1, 0, rect(-5, 1, 2, 2))
	frame := shown(t, s, manager, 0, rect(30000, 0, 1, 1))
	outer = shown(t, s, 1, 0, rect(30000, 0, 10, 10))
	done(t, s, manager, putting(outer, frame, 30000, 0))
	done(t, s, manager, putting(inner, outer, -5, 1))
	done(t, s, manager, saving(inner, 1))
	done(t, s, manager, saving(outer, 1))
	s.Stop()
	stands(t, s, inner, 0, rect(high-1, 1, 2, 2), true)
	stands(t, s, outer, 0, rect(high-9, 0, 10, 10), true)
}

// TestStopDestroysAllOfTheManagers, wherever they are: in each other in any order, in clients' windows, and with all in them that was not saved.
func TestStopDestroysAllOfTheManagers(t *testing.T) {
	s := display(t, rect(0, 0, 100, 100))
	a := shown(t, s, manager, 0, rect(0, 0, 9, 9))
	b := shown(t, s, manager, 0, rect(0, 0, 9, 9))
	c := shown(t, s, 1, 0, rect(0, 0, 9, 9))
	d := shown(t, s, manager, c, rect(0, 0, 9, 9))
	e := shown(t, s, 2, 0, rect(0, 0, 9, 9))
	f := shown(t, s, 2, 0, rect(0, 0, 9, 9))
	g := shown(t, s, manager, f, rect(0, 0, 9, 9))
	done(t, s, manager, putting(a, b, 1, 1)) // the greater number is around
	done(t, s, manager, putting(e, d, 1, 1))
	done(t, s, manager, putting(f, a, 1, 1))
	done(t, s, manager, saving(c, 1))
	done(t, s, manager, setting(d, named("A", "")))
	s.Stop()
	gone(t, s, a, b, d, e, f, g)
	kids(t, s, 0, c)
	kids(t, s, c)
	told(t, s)
	s.Start()
	told(t, s)
}

// TestStopAndFocus: it stays where its window is viewable behind all that, and else there is none.
func TestStopAndFocus(t *testing.T) {
	for _, c := range []struct {
		name         string
		ahead        []api.Request
		focus, after int
	}{
		{"none", nil, 0, 0},
		{"in the root", nil, 1, 1},
		{"saved", nil, 4, 4},
		{"saved, deeper", nil, 7, 7},
		{"in what is saved", nil, 5, 5},
		{"in what is saved, another's", nil, 8, 8},
		{"the manager's", nil, 3, 0},
		{"the manager's, in what is saved", nil, 6, 0},
		{"in the manager's", []api.Request{saving(7, 0)}, 7, 0},
		{"in what is in the manager's", []api.Request{saving(4, 0)}, 5, 0},
		{"saved in what is not", []api.Request{saving(4, 0), saving(8, 1)}, 8, 8},
	} {
		s := family(t)
		for _, q := range append(c.ahead, ask(api.ReqFocus, c.focus)) {
			done(t, s, manager, q)
		}
		s.Stop()
		if got := s.Focus(); got != c.after {
			t.Errorf("%s: Focus = %d, not %d", c.name, got, c.after)
		}
	}
}

// TestFocusWithoutManager stays, till its window is not viewable.
func TestFocusWithoutManager(t *testing.T) {
	s := family(t)
	s.Stop()
	done(t, s, 1, moving(2, rect(0, 0, 1, 1)))
	focused(t, s, 2)
	done(t, s, 1, ask(api.ReqUnmap, 1))
	focused(t, s, 0)
	done(t, s, 1, ask(api.ReqMap, 1))
	focused(t, s, 0)
}

// TestStopOfNothing: a display without windows.
func TestStopOfNothing(t *testing.T) {
	s := display(t, rect(0, 0, 9, 9))
	if e := s.Stop(); e != api.OK {
		t.Errorf("Stop = %d", e)
	}
	kids(t, s, 0)
	focused(t, s, 0)
	if id := done(t, s, 7, creating(0, rect(0, 0, 1, 1))); id != 1 {
		t.Errorf("the number %d", id)
	}
}
