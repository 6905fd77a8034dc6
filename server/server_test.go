package server_test

import (
	"fmt"
	"math"
	"slices"
	"strings"
	"testing"
	"unsafe"

	"casement/api"
	"casement/server"
)

const (
	low      = api.Low
	high     = api.High
	all      = high + 1 - low // how many places the plane has, one way
	manager  = 0
	mostWait = 4096
)

func rect(x, y, w, h int) api.Rect { return api.Rect{X: x, Y: y, W: w, H: h} }

func place(x, y int) api.Point { return api.Point{X: x, Y: y} }

func ask(kind, win int) api.Request { return api.Request{Kind: kind, Win: win} }

func creating(parent int, r api.Rect) api.Request {
	return api.Request{Kind: api.ReqCreate, Other: parent, Rect: r}
}

func moving(win int, r api.Rect) api.Request {
	return api.Request{Kind: api.ReqMove, Win: win, Rect: r}
}

func putting(win, parent, x, y int) api.Request {
	return api.Request{Kind: api.ReqReparent, Win: win, Other: parent, Rect: rect(x, y, 0, 0)}
}

func saving(win, on int) api.Request {
	return api.Request{Kind: api.ReqSave, Win: win, Other: on}
}

func named(name, data string) api.Prop { return api.Prop{Name: name, Type: "T", Data: data} }

func setting(win int, p api.Prop) api.Request {
	return api.Request{Kind: api.ReqProp, Win: win, Prop: p}
}

func event(kind, win int) api.Event { return api.Event{Kind: kind, Win: win} }

// changes are the kinds that change one window, of whoever's it is.
func changes() []int {
	return []int{api.ReqDestroy, api.ReqMap, api.ReqUnmap, api.ReqMove, api.ReqRaise, api.ReqLower, api.ReqProp}
}

func display(t *testing.T, r api.Rect) *server.Server {
	t.Helper()
	s, e := server.New(r)
	if e != api.OK || s == nil {
		t.Fatalf("New(%v) = %v, %d", r, s, e)
	}
	return s
}

// done asks for what is to be done, and answers the number of what is new.
func done(t *testing.T, s *server.Server, actor int, q api.Request) int {
	t.Helper()
	id, e := s.Do(actor, q)
	if e != api.OK || q.Kind != api.ReqCreate && id != 0 {
		t.Fatalf("Do(%d, %v) = %d, %d", actor, q, id, e)
	}
	return id
}

// shown makes a window that is mapped, by the manager's leave.
func shown(t *testing.T, s *server.Server, actor, parent int, r api.Rect) int {
	t.Helper()
	id := done(t, s, actor, creating(parent, r))
	done(t, s, manager, ask(api.ReqMap, id))
	return id
}

// told tells whether just these events wait.
func told(t *testing.T, s *server.Server, want ...api.Event) {
	t.Helper()
	if got := s.Events(); !slices.Equal(got, want) {
		t.Errorf("Events = %v, not %v", got, want)
	}
	if again := s.Events(); len(again) != 0 {
		t.Errorf("Events once more = %v", again)
	}
}

func kids(t *testing.T, s *server.Server, id int, want ...int) {
	t.Helper()
	if got := s.Kids(id); !slices.Equal(got, want) {
		t.Errorf("Kids(%d) = %v, not %v", id, got, want)
	}
}

func focused(t *testing.T, s *server.Server, want int) {
	t.Helper()
	if got := s.Focus(); got != want {
		t.Errorf("Focus = %d, not %d", got, want)
	}
}

// stands tells whether a window is as it is to be.
func stands(t *testing.T, s *server.Server, id, parent int, r api.Rect, mapped bool) {
	t.Helper()
	want := api.Window{ID: id, Parent: parent, Rect: r, Mapped: mapped}
	if got, ok := s.Get(id); got != want || !ok {
		t.Errorf("Get(%d) = %v, %v, not %v", id, got, ok, want)
	}
}

// gone tells whether nothing is known of these numbers.
func gone(t *testing.T, s *server.Server, ids ...int) {
	t.Helper()
	for _, id := range ids {
		if w, ok := s.Get(id); w != (api.Window{}) || ok || len(s.Kids(id)) != 0 || s.Viewable(id) {
			t.Errorf("Get(%d) = %v, %v, Kids %v, Viewable %v", id, w, ok, s.Kids(id), s.Viewable(id))
		}
		if maker, ok := s.Owner(id); maker != 0 || ok {
			t.Errorf("Owner(%d) = %d, %v", id, maker, ok)
		}
		if p, ok := s.Abs(id); p != (api.Point{}) || ok {
			t.Errorf("Abs(%d) = %v, %v", id, p, ok)
		}
		if p, ok := s.Prop(id, "A"); p != (api.Prop{}) || ok {
			t.Errorf("Prop(%d, A) = %v, %v", id, p, ok)
		}
	}
}

// inFamily is how many windows a family has: the numbers from 1 on.
const inFamily = 10

// family is a display with a window of each kind that is told apart:
// client 1 has 1 in the root, 2 in its own, 7 in the manager's, 8 in client 2's, and 10, which is not mapped, in the root;
// client 2 has 4 in the manager's, 5 in its own, 9 in client 1's; the manager has 3 in the root, and 6 in client 2's.
// 4 and 7 are saved, 2 has the focus; 11, and in it 12, are gone. Client 3 has none.
func family(t *testing.T) *server.Server {
	t.Helper()
	s := display(t, rect(0, 0, 100, 100))
	for i, c := range []struct {
		actor, parent int
		r             api.Rect
	}{
		{1, 0, rect(10, 10, 50, 50)}, {1, 1, rect(5, 5, 20, 20)}, {manager, 0, rect(30, 30, 40, 40)}, {2, 0, rect(0, 0, 10, 10)}, {2, 4, rect(1, 1, 5, 5)},
		{manager, 4, rect(0, 0, 3, 3)}, {1, 0, rect(70, 70, 9, 9)}, {1, 0, rect(0, 0, 8, 8)}, {2, 0, rect(0, 0, 7, 7)}, {1, 0, rect(80, 0, 6, 6)}, {1, 0, rect(1, 1, 1, 1)}, {1, 11, rect(1, 1, 1, 1)},
	} {
		if id := shown(t, s, c.actor, c.parent, c.r); id != i+1 {
			t.Fatalf("the window %d has the number %d", i+1, id)
		}
	}
	for _, q := range []api.Request{
		putting(4, 3, 2, 3), putting(7, 6, 1, 1), putting(8, 4, 2, 2), putting(9, 2, 4, 4), ask(api.ReqUnmap, 10), ask(api.ReqDestroy, 11),
		saving(4, 1), saving(7, 1), ask(api.ReqFocus, 2), setting(1, named("A", "one")), setting(3, named("A", "three")), setting(4, named("B", "four")),
	} {
		done(t, s, manager, q)
	}
	s.Events()
	return s
}

// ownIn lists a client's windows in a family that are not foreign, and those that are.
func ownIn(client int) (own, foreign []int) {
	switch client {
	case 1:
		return []int{2}, []int{1, 7, 8, 10}
	case 2:
		return []int{5}, []int{4, 9}
	}
	return nil, nil
}

// others lists the windows in a family that are not an actor's.
func others(actor int) []int {
	own, foreign := ownIn(actor)
	var l []int
	for id := 1; id <= inFamily; id++ {
		if !slices.Contains(own, id) && !slices.Contains(foreign, id) {
			l = append(l, id)
		}
	}
	return l
}

// whole tells all that can be told of a family without a change.
func whole(s *server.Server) string {
	var b strings.Builder
	fmt.Fprintln(&b, "Focus", s.Focus())
	for _, id := range append(around(), 1, 2, 3, 4, 5, 6, 7, 8, 9, 10, 11, 12, 13, 14) {
		w, ok := s.Get(id)
		maker, made := s.Owner(id)
		p, in := s.Abs(id)
		fmt.Fprintln(&b, id, w, ok, maker, made, s.Kids(id), s.Viewable(id), p, in)
		for _, name := range []string{"A", "B", "C", "no name", ""} {
			p, ok := s.Prop(id, name)
			fmt.Fprintf(&b, "%q %v ", p, ok)
		}
	}
	return b.String()
}

// used tells the rest as well, which is told by what is done: which number is the next, what waits, whether there is a manager, and what is saved.
func used(s *server.Server) string {
	l := []any{whole(s), s.Events()}
	id, e := s.Do(1, creating(0, rect(0, 0, 1, 1)))
	l = append(l, id, e, s.Start(), s.Stop(), whole(s), s.Events(), s.Start(), s.Events())
	return fmt.Sprint(l...)
}

// around are the root, and numbers that are no window's.
func around() []int {
	return []int{math.MinInt, math.MinInt32, -2, -1, 0, 1 << 16, math.MaxInt32, 1 << 32, math.MaxInt}
}

// wrong rectangles are not right.
func wrong() []api.Rect {
	return []api.Rect{
		rect(0, 0, -1, 5), rect(0, 0, 5, -1), rect(low-1, 0, 1, 1), rect(0, low-1, 1, 1), rect(high+1, 0, 0, 0), rect(0, high+1, 0, 0), rect(high, 0, 2, 1), rect(0, high, 1, 2), rect(low, low, all+1, 1), rect(low, low, 1, all+1),
		rect(math.MinInt, 0, 1, 1), rect(0, math.MaxInt, 1, 1), rect(0, 0, math.MaxInt, 1), rect(0, 0, 1, math.MinInt), rect(math.MaxInt, math.MaxInt, math.MaxInt, math.MaxInt),
	}
}

// right rectangles may be a window's, also those that have no place.
func right() []api.Rect {
	return []api.Rect{{}, rect(3, 4, 5, 6), rect(-3, -4, 500, 600), rect(3, 4, 0, 6), rect(3, 4, 5, 0), rect(low, low, all, all), rect(high, high, 1, 1), rect(high, high, 0, 0), rect(low, low, 0, 0)}
}

func TestNew(t *testing.T) {
	for _, r := range append(wrong(), api.Rect{}, rect(1, 1, 0, 5), rect(1, 1, 5, 0), rect(high, high, 0, 0)) {
		if s, e := server.New(r); s != nil || e != api.ErrRect {
			t.Errorf("New(%v) = %v, %d", r, s, e)
		}
	}
	for _, r := range []api.Rect{rect(0, 0, 1, 1), rect(-7, 9, 20, 30), rect(low, low, all, all), rect(high, high, 1, 1)} {
		s := display(t, r)
		stands(t, s, 0, -1, r, true)
		focused(t, s, 0)
		kids(t, s, 0)
		told(t, s)
		gone(t, s, 1, -1)
		if maker, ok := s.Owner(0); maker != 0 || ok || !s.Viewable(0) {
			t.Errorf("of the root: Owner %d, %v, Viewable %v", maker, ok, s.Viewable(0))
		}
		if p, ok := s.Abs(0); p != (api.Point{}) || !ok {
			t.Errorf("Abs(0) = %v, %v", p, ok)
		}
		if e := s.Start(); e != api.ErrState { // the manager is there from the beginning on
			t.Errorf("Start = %d", e)
		}
		if id := done(t, s, manager, creating(0, r)); id != 1 {
			t.Errorf("the manager's first window is %d", id)
		}
	}
}

func TestDisplaysOfTheirOwn(t *testing.T) {
	a, b := display(t, rect(0, 0, 9, 9)), display(t, rect(0, 0, 9, 9))
	before := whole(b)
	id := shown(t, a, 1, 0, rect(0, 0, 1, 1))
	done(t, a, 1, setting(id, named("A", "x")))
	done(t, a, manager, ask(api.ReqFocus, id))
	if e := a.Stop(); e != api.OK {
		t.Errorf("Stop = %d", e)
	}
	if whole(b) != before || b.Start() != api.ErrState || len(b.Events()) != 0 {
		t.Error("one display changed another one")
	}
}

// TestExample is the chapter's.
func TestExample(t *testing.T) {
	s := display(t, rect(0, 0, 100, 100))
	id := done(t, s, 1, creating(0, rect(1, 2, 3, 4)))
	done(t, s, 1, ask(api.ReqMap, id))
	stands(t, s, 1, 0, rect(1, 2, 3, 4), false)
	if _, e := s.Do(2, moving(1, rect(0, 0, 1, 1))); e != api.ErrRefuse {
		t.Errorf("client 2 moves it: %d", e)
	}
	told(t, s, event(api.EvMapRequest, 1))
}

func TestStartAndStop(t *testing.T) {
	s := display(t, rect(0, 0, 9, 9))
	for range 3 {
		if e := s.Start(); e != api.ErrState {
			t.Errorf("Start, where there is a manager: %d", e)
		}
		if e := s.Stop(); e != api.OK {
			t.Errorf("Stop = %d", e)
		}
		for range 2 {
			if e := s.Stop(); e != api.ErrState {
				t.Errorf("Stop, where there is no manager: %d", e)
			}
		}
		if _, e := s.Do(manager, creating(0, rect(0, 0, 1, 1))); e != api.ErrArg {
			t.Errorf("the manager asks, where there is none: %d", e)
		}
		if e := s.Start(); e != api.OK {
			t.Errorf("Start = %d", e)
		}
		done(t, s, manager, creating(0, rect(0, 0, 1, 1)))
	}
}

// TestStartChangesNothing but that there is a manager.
func TestStartChangesNothing(t *testing.T) {
	s := family(t)
	s.Stop()
	done(t, s, 1, ask(api.ReqMap, 10))
	before := whole(s)
	if s.Start() != api.OK || whole(s) != before || len(s.Events()) != 0 {
		t.Error("Start changed what is told")
	}
	done(t, s, 1, ask(api.ReqMap, 10))
	told(t, s, event(api.EvMapRequest, 10))
}

func TestEventsInOrder(t *testing.T) {
	s := family(t)
	for _, c := range []struct {
		actor int
		q     api.Request
	}{
		{2, moving(9, rect(1, 2, 3, 4))}, {1, ask(api.ReqMap, 10)}, {1, ask(api.ReqMap, 10)}, {2, setting(5, named("Z", ""))}, {1, ask(api.ReqUnmap, 1)}, {1, ask(api.ReqDestroy, 1)}, {2, ask(api.ReqMap, 4)},
	} {
		done(t, s, c.actor, c.q)
	}
	told(t, s,
		api.Event{Kind: api.EvMoveRequest, Win: 9, Rect: rect(1, 2, 3, 4)}, event(api.EvMapRequest, 10), event(api.EvMapRequest, 10), api.Event{Kind: api.EvProp, Win: 5, Name: "Z"},
		event(api.EvUnmapped, 1), event(api.EvDestroyed, 9), event(api.EvDestroyed, 2), event(api.EvDestroyed, 1), event(api.EvMapRequest, 4))
	done(t, s, 2, ask(api.ReqMap, 4))
	told(t, s, event(api.EvMapRequest, 4))
}

// TestMostEvents: what comes behind the last one that may wait is done as ever, but not told.
func TestMostEvents(t *testing.T) {
	s := family(t)
	for range 2 {
		var want []api.Event
		for n := range mostWait {
			done(t, s, 1, moving(1, rect(n, -n, 1, 1)))
			want = append(want, api.Event{Kind: api.EvMoveRequest, Win: 1, Rect: rect(n, -n, 1, 1)})
		}
		done(t, s, 1, moving(1, rect(9, 9, 9, 9)))
		done(t, s, 1, setting(1, named("C", "late")))
		done(t, s, 1, ask(api.ReqMap, 1))
		done(t, s, 1, ask(api.ReqUnmap, 7))
		if p, ok := s.Prop(1, "C"); p != named("C", "late") || !ok {
			t.Errorf("Prop(1, C) = %v, %v", p, ok)
		}
		stands(t, s, 7, 6, rect(1, 1, 9, 9), false)
		told(t, s, want...)
		done(t, s, 1, ask(api.ReqMap, 1))
		told(t, s, event(api.EvMapRequest, 1))
	}
	for range mostWait - 2 {
		done(t, s, 1, ask(api.ReqMap, 1))
	}
	done(t, s, 1, ask(api.ReqDestroy, 1)) // ends three, of which two are told
	gone(t, s, 1, 2, 9)
	if l := s.Events(); len(l) != mostWait || !slices.Equal(l[mostWait-3:], []api.Event{event(api.EvMapRequest, 1), event(api.EvDestroyed, 9), event(api.EvDestroyed, 2)}) {
		t.Errorf("%d events, the last ones %v", len(l), l[len(l)-3:])
	}
}

func TestNoEventsWithoutManager(t *testing.T) {
	s := family(t)
	done(t, s, 1, ask(api.ReqMap, 1))
	s.Stop()
	told(t, s) // nor what waited
	for _, q := range []api.Request{ask(api.ReqMap, 1), moving(1, rect(0, 0, 1, 1)), ask(api.ReqUnmap, 1), setting(1, named("A", "")), ask(api.ReqDestroy, 1)} {
		done(t, s, 1, q)
	}
	s.Start()
	told(t, s)
	done(t, s, 1, ask(api.ReqMap, 10))
	s.Stop()
	s.Start()
	told(t, s)
}

func TestCreate(t *testing.T) {
	for _, r := range right() {
		s := family(t)
		next := 13
		for _, c := range []struct{ actor, parent int }{{1, 0}, {1, 1}, {1, 2}, {1, 7}, {1, 8}, {1, 10}, {2, 0}, {2, 4}, {2, 9}, {3, 0}, {math.MaxInt, 0}, {manager, 0}, {manager, 1}, {manager, 3}, {manager, 5}, {manager, 6}, {1, 13}} {
			before := s.Kids(c.parent)
			id := done(t, s, c.actor, creating(c.parent, r))
			if maker, ok := s.Owner(id); id != next || maker != c.actor || !ok {
				t.Errorf("the number %d, not %d; Owner %d, %v, not %d", id, next, maker, ok, c.actor)
			}
			stands(t, s, id, c.parent, r, false)
			kids(t, s, c.parent, append(before, id)...)
			next++
		}
		told(t, s)
		focused(t, s, 2)
	}
}

// TestCreateWithoutManager: a client's windows come as ever.
func TestCreateWithoutManager(t *testing.T) {
	s := family(t)
	s.Stop()
	for i, c := range []struct{ actor, parent int }{{1, 0}, {1, 1}, {2, 4}, {5, 0}} {
		if id := done(t, s, c.actor, creating(c.parent, rect(1, 2, 3, 4))); id != 13+i {
			t.Errorf("the number %d, not %d", id, 13+i)
		}
	}
}

func TestFocus(t *testing.T) {
	s := family(t)
	for _, id := range []int{1, 2, 3, 4, 5, 6, 7, 8, 9, 0, 9, 9, 0, 0} {
		done(t, s, manager, ask(api.ReqFocus, id))
		focused(t, s, id)
	}
	told(t, s)
	id := shown(t, s, 1, 0, rect(50, 50, 0, 0)) // it has no place, but it is viewable
	done(t, s, manager, ask(api.ReqFocus, id))
	focused(t, s, id)
}

// TestFocusStays, whatever else is done.
func TestFocusStays(t *testing.T) {
	s := family(t)
	for _, c := range []struct {
		actor int
		q     api.Request
	}{
		{1, moving(2, rect(-900, -900, 1, 1))}, {1, ask(api.ReqMap, 2)}, {1, ask(api.ReqLower, 2)}, {1, ask(api.ReqRaise, 2)}, {2, ask(api.ReqDestroy, 9)}, {1, setting(2, named("A", ""))}, {1, moving(2, rect(0, 0, 0, 0))}, {manager, ask(api.ReqUnmap, 3)}, {manager, ask(api.ReqDestroy, 3)},
		{manager, putting(2, 0, 0, 0)}, {manager, putting(2, 1, 0, 0)}, {manager, saving(2, 1)}, {manager, saving(2, 0)}, {1, creating(2, rect(0, 0, 1, 1))},
	} {
		done(t, s, c.actor, c.q)
		focused(t, s, 2)
	}
}

// TestFocusIsLost, where its window is not viewable any more, and does not come back with it.
func TestFocusIsLost(t *testing.T) {
	for _, c := range []struct {
		name        string
		focus       int
		actor       int
		lose, again api.Request
	}{
		{"its client unmaps it", 1, 1, ask(api.ReqUnmap, 1), ask(api.ReqMap, 1)},
		{"its client unmaps it, which is not foreign", 2, 1, ask(api.ReqUnmap, 2), ask(api.ReqMap, 2)},
		{"the manager unmaps it", 5, manager, ask(api.ReqUnmap, 5), ask(api.ReqMap, 5)},
		{"the manager's is unmapped", 3, manager, ask(api.ReqUnmap, 3), ask(api.ReqMap, 3)},
		{"what is around it is unmapped", 7, manager, ask(api.ReqUnmap, 3), ask(api.ReqMap, 3)},
		{"what is around it is unmapped by its client", 9, 1, ask(api.ReqUnmap, 1), ask(api.ReqMap, 1)},
		{"it is put into what is not mapped", 2, manager, putting(2, 10, 0, 0), putting(2, 1, 5, 5)},
		{"what is around it is put there", 7, manager, putting(4, 10, 0, 0), putting(4, 3, 2, 3)},
		{"it is destroyed", 8, 1, ask(api.ReqDestroy, 8), ask(api.ReqMap, 1)},
		{"what is around it is destroyed", 7, manager, ask(api.ReqDestroy, 3), ask(api.ReqMap, 1)},
	} {
		s := family(t)
		done(t, s, manager, ask(api.ReqFocus, c.focus))
		done(t, s, c.actor, c.lose)
		if got := s.Focus(); got != 0 {
			t.Errorf("%s: Focus = %d", c.name, got)
		}
		done(t, s, manager, c.again)
		if got := s.Focus(); got != 0 {
			t.Errorf("behind %s: Focus = %d again", c.name, got)
		}
	}
}

func TestReparent(t *testing.T) {
	s := family(t)
	for _, c := range []struct{ id, parent, x, y, w, h int }{
		{1, 3, 4, 5, 50, 50}, {2, 0, -7, 8, 20, 20}, {3, 0, 0, 0, 40, 40}, {9, 6, low, low, 7, 7}, {6, 1, high, high - 2, 3, 3}, {5, 5, 0, 0, 0, 0}, {10, 2, 1, 1, 6, 6}, {2, 0, 3, 3, 20, 20},
	} {
		got, _ := s.Get(c.id)
		before := s.Kids(c.parent)
		_, e := s.Do(manager, putting(c.id, c.parent, c.x, c.y))
		switch {
		case c.id == c.parent:
			if e != api.ErrCycle {
				t.Errorf("Reparent(%d, %d) = %d", c.id, c.parent, e)
			}
			continue
		case c.id == 6: // three places wide, it is not right at the plane's last one
			if e != api.ErrRect {
				t.Errorf("Reparent(%d) at %d = %d", c.id, c.x, e)
			}
			continue
		}
		stands(t, s, c.id, c.parent, rect(c.x, c.y, c.w, c.h), got.Mapped)
		before = slices.DeleteFunc(before, func(id int) bool { return id == c.id })
		kids(t, s, c.parent, append(before, c.id)...)
	}
	told(t, s)
}

// TestReparentTakesTheCorner alone of Rect, which may be of any size.
func TestReparentTakesTheCorner(t *testing.T) {
	s := family(t)
	for i, size := range []api.Point{place(-1, -1), place(all+1, 3), place(math.MaxInt, math.MinInt), place(5, 5)} {
		done(t, s, manager, api.Request{Kind: api.ReqReparent, Win: 1, Other: 3, Rect: rect(i, i+1, size.X, size.Y)})
		stands(t, s, 1, 3, rect(i, i+1, 50, 50), true)
	}
}

// kept tells which windows of a family are there behind a Stop.
func kept(s *server.Server) []int {
	var l []int
	s.Stop()
	for id := 1; id <= inFamily; id++ {
		if _, ok := s.Get(id); ok {
			l = append(l, id)
		}
	}
	return l
}

func TestSave(t *testing.T) {
	for _, c := range []struct {
		name string
		ask  []api.Request
		want []int
	}{
		{"as it is", nil, []int{1, 2, 4, 5, 7, 8, 9, 10}},
		{"4 not any more", []api.Request{saving(4, 0)}, []int{1, 2, 7, 9, 10}},
		{"twice saved, once not", []api.Request{saving(4, 1), saving(4, 1), saving(4, 0)}, []int{1, 2, 7, 9, 10}},
		{"not, and again", []api.Request{saving(4, 0), saving(4, -1)}, []int{1, 2, 4, 5, 7, 8, 9, 10}},
		{"not, where it was not", []api.Request{saving(8, 0), saving(7, 0)}, []int{1, 2, 4, 5, 8, 9, 10}},
		{"none", []api.Request{saving(4, 0), saving(7, 0)}, []int{1, 2, 9, 10}},
		{"8 and 5 for what is around them", []api.Request{saving(4, 0), saving(7, 0), saving(8, math.MinInt), saving(5, math.MaxInt)}, []int{1, 2, 5, 8, 9, 10}},
	} {
		s := family(t)
		before := whole(s)
		for _, q := range c.ask {
			done(t, s, manager, q)
		}
		if whole(s) != before {
			t.Errorf("%s: ReqSave changed what is told", c.name)
		}
		told(t, s)
		if got := kept(s); !slices.Equal(got, c.want) {
			t.Errorf("%s: behind Stop there are %v, not %v", c.name, got, c.want)
		}
	}
}

// TestDestroyedByEach: an actor's own windows, foreign or not, and all in them, whosever these are.
func TestDestroyedByEach(t *testing.T) {
	for _, c := range []struct {
		actor, id int
		ended     []int
		told      []int
	}{
		{1, 10, []int{10}, []int{10}}, {1, 7, []int{7}, []int{7}}, {1, 8, []int{8}, []int{8}}, {1, 2, []int{9, 2}, []int{9, 2}}, {1, 1, []int{9, 2, 1}, []int{9, 2, 1}},
		{2, 5, []int{5}, []int{5}}, {2, 9, []int{9}, []int{9}}, {2, 4, []int{5, 7, 6, 8, 4}, []int{5, 7, 8, 4}},
		{manager, 3, []int{5, 7, 6, 8, 4, 3}, []int{5, 7, 8, 4}}, {manager, 6, []int{7, 6}, []int{7}}, {manager, 1, []int{9, 2, 1}, []int{9, 2, 1}}, {manager, 5, []int{5}, []int{5}},
	} {
		s := family(t)
		var want []api.Event
		for _, id := range c.told {
			want = append(want, event(api.EvDestroyed, id))
		}
		done(t, s, c.actor, ask(api.ReqDestroy, c.id))
		told(t, s, want...)
		gone(t, s, c.ended...)
		for id := 1; id <= inFamily; id++ {
			_, made := s.Owner(id)
			if _, ok := s.Get(id); ok == slices.Contains(c.ended, id) || ok != made {
				t.Errorf("%d destroys %d: %d is there: %v, and has a maker: %v", c.actor, c.id, id, ok, made)
			}
		}
	}
}

// TestManagersAloneIsNotTold: of the manager's own window nothing is told.
func TestManagersAloneIsNotTold(t *testing.T) {
	s := display(t, rect(0, 0, 9, 9))
	outer := shown(t, s, manager, 0, rect(0, 0, 5, 5))
	shown(t, s, manager, outer, rect(0, 0, 5, 5))
	done(t, s, manager, ask(api.ReqDestroy, outer))
	told(t, s)
}

// TestDestroyedIsNotSaved, and its number is never another one's.
func TestDestroyedIsNotSaved(t *testing.T) {
	s := family(t)
	done(t, s, 2, ask(api.ReqDestroy, 4)) // 7, which is saved, is in it
	if l := kept(s); !slices.Equal(l, []int{1, 2, 9, 10}) {
		t.Errorf("behind Stop there are %v", l)
	}
	kids(t, s, 0, 1, 10)
	gone(t, s, 3, 4, 5, 6, 7, 8)
	if id := done(t, s, 2, creating(0, rect(0, 0, 1, 1))); id != 13 {
		t.Errorf("the next number is %d", id)
	}
}

func TestProp(t *testing.T) {
	s := family(t)
	full := api.Prop{Name: strings.Repeat("N", api.MaxName), Type: strings.Repeat("T", api.MaxName), Data: strings.Repeat("\x00\xff", api.MaxData/2)}
	for _, c := range []struct {
		actor, id int
		p         api.Prop
	}{
		{1, 1, named("A", "new")}, {1, 1, named("C", "")}, {1, 2, named("A", "two")}, {1, 7, full}, {2, 5, full}, {2, 4, named("B", "")}, {1, 10, api.Prop{Name: "A", Type: "A", Data: "\x00"}},
	} {
		done(t, s, c.actor, setting(c.id, c.p))
		if got, ok := s.Prop(c.id, c.p.Name); got != c.p || !ok {
			t.Errorf("Prop(%d, %s) = %q, %v", c.id, c.p.Name, got, ok)
		}
		told(t, s, api.Event{Kind: api.EvProp, Win: c.id, Name: c.p.Name}) // foreign or not
		done(t, s, manager, setting(c.id, named(c.p.Name, "manager's")))
		if got, ok := s.Prop(c.id, c.p.Name); got != named(c.p.Name, "manager's") || !ok {
			t.Errorf("Prop(%d, %s) = %q, %v", c.id, c.p.Name, got, ok)
		}
		told(t, s)
	}
	if p, ok := s.Prop(3, "A"); p != named("A", "three") || !ok {
		t.Errorf("Prop(3, A) = %q, %v", p, ok)
	}
	for _, id := range append(around(), 9, 11, 13) {
		if p, ok := s.Prop(id, "A"); p != (api.Prop{}) || ok {
			t.Errorf("Prop(%d, A) = %q, %v", id, p, ok)
		}
	}
}

// TestPropertiesAreDropped with their windows: the table would have room for no more of them for good.
func TestPropertiesAreDropped(t *testing.T) {
	s := family(t)
	done(t, s, 1, setting(2, named("A", "in it")))
	done(t, s, 1, ask(api.ReqDestroy, 1))
	gone(t, s, 1, 2, 9)
	s.Stop()
	gone(t, s, 3)
	if p, ok := s.Prop(4, "B"); p != named("B", "four") || !ok {
		t.Errorf("Prop(4, B) = %q, %v", p, ok)
	}
}

// clients asks for something as each client, of each window of its own; foreign says whether the manager is to say.
func clients(t *testing.T, stopped bool, do func(s *server.Server, client, id int, foreign bool)) {
	t.Helper()
	for client := 1; client <= 2; client++ {
		own, foreign := ownIn(client)
		for _, id := range append(own, foreign...) {
			s := family(t)
			if stopped {
				s.Stop()
			}
			do(s, client, id, slices.Contains(foreign, id))
		}
	}
}

// spoil turns what is asked for around, so that it is seen whether it is done.
func spoil(t *testing.T, s *server.Server, id int) {
	t.Helper()
	w, _ := s.Get(id)
	if w.Mapped {
		done(t, s, manager, ask(api.ReqUnmap, id))
		return
	}
	done(t, s, manager, ask(api.ReqMap, id))
}

func TestMap(t *testing.T) {
	clients(t, false, func(s *server.Server, client, id int, foreign bool) {
		done(t, s, manager, ask(api.ReqUnmap, id))
		for range 2 {
			w, _ := s.Get(id)
			done(t, s, client, ask(api.ReqMap, id))
			if foreign {
				told(t, s, event(api.EvMapRequest, id))
				stands(t, s, id, w.Parent, w.Rect, w.Mapped)
			} else {
				told(t, s)
				stands(t, s, id, w.Parent, w.Rect, true)
			}
			spoil(t, s, id)
		}
	})
	clients(t, true, func(s *server.Server, client, id int, _ bool) {
		w, _ := s.Get(id)
		done(t, s, client, ask(api.ReqMap, id))
		stands(t, s, id, w.Parent, w.Rect, true)
		s.Start()
		told(t, s)
	})
	for id := 1; id <= inFamily; id++ {
		s := family(t)
		w, _ := s.Get(id)
		for range 2 {
			done(t, s, manager, ask(api.ReqMap, id))
			stands(t, s, id, w.Parent, w.Rect, true)
		}
		told(t, s)
	}
}

func TestUnmap(t *testing.T) {
	clients(t, false, func(s *server.Server, client, id int, foreign bool) {
		w, _ := s.Get(id)
		for range 2 { // also where it is not mapped
			done(t, s, client, ask(api.ReqUnmap, id))
			stands(t, s, id, w.Parent, w.Rect, false)
			if foreign {
				told(t, s, event(api.EvUnmapped, id))
			} else {
				told(t, s)
			}
		}
	})
	clients(t, true, func(s *server.Server, client, id int, _ bool) {
		w, _ := s.Get(id)
		done(t, s, client, ask(api.ReqUnmap, id))
		stands(t, s, id, w.Parent, w.Rect, false)
		s.Start()
		told(t, s)
	})
	for id := 1; id <= inFamily; id++ {
		s := family(t)
		w, _ := s.Get(id)
		for range 2 {
			done(t, s, manager, ask(api.ReqUnmap, id))
			stands(t, s, id, w.Parent, w.Rect, false)
		}
		told(t, s)
	}
}

func TestMove(t *testing.T) {
	for _, r := range right() {
		clients(t, false, func(s *server.Server, client, id int, foreign bool) {
			w, _ := s.Get(id)
			done(t, s, client, moving(id, r))
			if foreign {
				told(t, s, api.Event{Kind: api.EvMoveRequest, Win: id, Rect: r})
				stands(t, s, id, w.Parent, w.Rect, w.Mapped)
			} else {
				told(t, s)
				stands(t, s, id, w.Parent, r, w.Mapped)
			}
		})
		clients(t, true, func(s *server.Server, client, id int, _ bool) {
			w, _ := s.Get(id)
			done(t, s, client, moving(id, r))
			stands(t, s, id, w.Parent, r, w.Mapped)
			s.Start()
			told(t, s)
		})
		for id := 1; id <= inFamily; id++ {
			s := family(t)
			w, _ := s.Get(id)
			done(t, s, manager, moving(id, r))
			stands(t, s, id, w.Parent, r, w.Mapped)
			told(t, s)
		}
	}
}

func TestRaiseAndLower(t *testing.T) {
	s := family(t)
	kids(t, s, 0, 1, 3, 10)
	kids(t, s, 4, 5, 6, 8)
	done(t, s, 2, ask(api.ReqRaise, 5))
	kids(t, s, 4, 6, 8, 5)
	done(t, s, 2, ask(api.ReqLower, 5))
	kids(t, s, 4, 5, 6, 8)
	done(t, s, manager, ask(api.ReqRaise, 1))
	kids(t, s, 0, 3, 10, 1)
	done(t, s, manager, ask(api.ReqLower, 10))
	kids(t, s, 0, 10, 3, 1)
	done(t, s, manager, ask(api.ReqRaise, 6))
	kids(t, s, 4, 5, 8, 6)
	told(t, s)
	s.Stop()
	kids(t, s, 0, 10, 1, 4, 7)
	done(t, s, 1, ask(api.ReqRaise, 10))
	kids(t, s, 0, 1, 4, 7, 10)
	done(t, s, 2, ask(api.ReqLower, 4))
	kids(t, s, 0, 4, 1, 7, 10)
	done(t, s, 1, ask(api.ReqLower, 8))
	kids(t, s, 4, 8, 5)
}

func TestOwner(t *testing.T) {
	s := family(t)
	for id, want := range []int{0, 1, 1, 0, 2, 2, 0, 1, 1, 2, 1} {
		if maker, ok := s.Owner(id); maker != want || ok != (id != 0) {
			t.Errorf("Owner(%d) = %d, %v, not %d", id, maker, ok, want)
		}
	}
	gone(t, s, 11, 12, 13, -1, math.MinInt, math.MaxInt)
}

// TestAsInTheTree: what is told of windows is as chapter 6 has it.
func TestAsInTheTree(t *testing.T) {
	s := family(t)
	for _, c := range []struct {
		id, x, y int
		seen     bool
		kids     []int
	}{
		{0, 0, 0, true, []int{1, 3, 10}}, {1, 10, 10, true, []int{2}}, {2, 15, 15, true, []int{9}}, {3, 30, 30, true, []int{4}}, {4, 32, 33, true, []int{5, 6, 8}}, {5, 33, 34, true, nil},
		{6, 32, 33, true, []int{7}}, {7, 33, 34, true, nil}, {8, 34, 35, true, nil}, {9, 19, 19, true, nil}, {10, 80, 0, false, nil},
	} {
		if p, ok := s.Abs(c.id); p != place(c.x, c.y) || !ok || s.Viewable(c.id) != c.seen {
			t.Errorf("Abs(%d) = %v, %v, Viewable %v", c.id, p, ok, s.Viewable(c.id))
		}
		kids(t, s, c.id, c.kids...)
	}
	done(t, s, manager, ask(api.ReqUnmap, 3))
	for id := 3; id <= 8; id++ {
		if s.Viewable(id) {
			t.Errorf("%d is viewable in what is not mapped", id)
		}
	}
}

// loose is a text, and the room that it lies in.
func loose(text string) (string, []byte) {
	room := []byte(text)
	return unsafe.String(unsafe.SliceData(room), len(room)), room
}

// shares tells whether two texts lie in one room.
func shares(a, b string) bool { return len(a) > 0 && unsafe.StringData(a) == unsafe.StringData(b) }

func TestMemoryOfTexts(t *testing.T) {
	s := family(t)
	name, nameRoom := loose("NAME")
	kind, kindRoom := loose("TYPE")
	data, dataRoom := loose("data")
	done(t, s, 1, setting(1, api.Prop{Name: name, Type: kind, Data: data}))
	for _, room := range [][]byte{nameRoom, kindRoom, dataRoom} {
		copy(room, "####")
	}
	want := api.Prop{Name: "NAME", Type: "TYPE", Data: "data"}
	a, ok := s.Prop(1, "NAME")
	b, _ := s.Prop(1, "NAME")
	if a != want || b != want || !ok {
		t.Errorf("Prop behind a change of what was handed in: %q, %q", a, b)
	}
	l := s.Events()
	if len(l) != 1 || l[0].Name != "NAME" {
		t.Fatalf("Events behind a change of what was handed in: %v", l)
	}
	if shares(a.Name, b.Name) || shares(a.Data, b.Data) || shares(a.Name, l[0].Name) || shares(l[0].Name, name) {
		t.Error("two answers share a text")
	}
}

func TestMemoryOfLists(t *testing.T) {
	s := family(t)
	done(t, s, 1, ask(api.ReqMap, 1))
	done(t, s, 1, ask(api.ReqMap, 7))
	first := s.Events()
	spare := first[:cap(first)]
	done(t, s, 1, ask(api.ReqMap, 8))
	done(t, s, 1, ask(api.ReqMap, 10))
	clear(spare)
	second := s.Events()
	if !slices.Equal(second, []api.Event{event(api.EvMapRequest, 8), event(api.EvMapRequest, 10)}) || first[0] != (api.Event{}) {
		t.Errorf("Events, behind a change of those that came first: %v", second)
	}
	l, other := s.Kids(4), s.Kids(4)
	clear(l[:cap(l)])
	if !slices.Equal(other, []int{5, 6, 8}) {
		t.Errorf("two answers of Kids share a list: %v", other)
	}
	kids(t, s, 4, 5, 6, 8)
}
