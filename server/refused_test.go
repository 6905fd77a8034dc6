package server_test

import (
	"fmt"
	"math"
	"strings"
	"testing"

	"casement/api"
	"casement/server"
)

// refusal is what is to be refused.
type refusal struct {
	actor int
	q     api.Request
	want  api.Errno
}

// refuses tells whether each is refused, of displays that are made alike, and changes nothing, of what is seen as well as of the rest.
func refuses(t *testing.T, build func(t *testing.T) *server.Server, l ...refusal) {
	t.Helper()
	s := build(t)
	before := whole(s)
	for _, c := range l {
		if id, e := s.Do(c.actor, c.q); id != 0 || e != c.want {
			t.Errorf("Do(%d, %.80v) = %d, %d, not %d", c.actor, c.q, id, e, c.want)
		}
	}
	if whole(s) != before {
		t.Errorf("what was refused with %d changed what is told", l[0].want)
	}
	if used(s) != used(build(t)) {
		t.Errorf("what was refused with %d changed what is not told", l[0].want)
	}
}

// waiting is a family with events that wait.
func waiting(t *testing.T) *server.Server {
	t.Helper()
	s := family(t)
	done(t, s, 1, ask(api.ReqMap, 1))
	done(t, s, 2, setting(4, named("B", "new")))
	return s
}

// stopped is a family without a manager.
func stopped(t *testing.T) *server.Server {
	t.Helper()
	s := waiting(t)
	s.Stop()
	return s
}

// full is a display that has room for no more windows: 1 is client 1's, 2 the manager's, 3 client 2's.
func full(t *testing.T) *server.Server {
	t.Helper()
	s := display(t, rect(0, 0, 100, 100))
	for n := range api.MaxWindows {
		done(t, s, []int{1, manager, 2}[n%3], creating(0, rect(1, 1, 1, 1)))
	}
	return s
}

// kinds are all kinds, and some that are none.
func kinds() []int {
	l := []int{math.MinInt, -1, 0, 12, 13, math.MaxInt, math.MinInt32, 1<<32 + 1}
	for kind := 1; kind <= 11; kind++ {
		l = append(l, kind)
	}
	return l
}

// notProps are properties that may not be, with the error that is first.
func notProps() map[api.Errno][]api.Prop {
	much := strings.Repeat("x", api.MaxData+1)
	return map[api.Errno][]api.Prop{
		api.ErrName: {{}, {Name: "A"}, {Type: "A"}, named("a b", "x"), named(strings.Repeat("N", api.MaxName+1), ""), named("", much), {Name: "A", Type: "-", Data: much}},
		api.ErrData: {named("A", much), named("C", much+much)},
	}
}

// faulty are requests of a kind and a window that may be, with all else that may be wrong, or right.
func faulty(kind, win int) []api.Request {
	var l []api.Request
	for _, r := range append(wrong(), rect(1, 1, 1, 1), rect(low-1, 0, 0, 0)) {
		for _, other := range []int{0, 1, 2, 3, 4, 7, 11, 99, -1, math.MinInt, math.MaxInt} {
			l = append(l, api.Request{Kind: kind, Win: win, Other: other, Rect: r, Prop: named("A", "x")})
		}
	}
	for _, props := range notProps() {
		for _, p := range props {
			l = append(l, api.Request{Kind: kind, Win: win, Other: win, Prop: p})
		}
	}
	return l
}

func TestNoDisplay(t *testing.T) {
	for _, s := range []*server.Server{nil, {}, new(server.Server)} {
		for _, actor := range []int{manager, 1, -1, math.MinInt, math.MaxInt} {
			for _, kind := range kinds() {
				for _, win := range append(around(), 1) {
					for _, r := range []api.Rect{{}, rect(0, 0, 1, 1), rect(0, 0, -1, 1)} {
						id, e := s.Do(actor, api.Request{Kind: kind, Win: win, Other: win, Rect: r, Prop: named("A", "x")})
						if id != 0 || e != api.ErrNil {
							t.Fatalf("no display: Do(%d, %d of %d) = %d, %d", actor, kind, win, id, e)
						}
					}
				}
			}
		}
		for range 2 {
			if a, b := s.Start(), s.Stop(); a != api.ErrNil || b != api.ErrNil {
				t.Errorf("no display: Start = %d, Stop = %d", a, b)
			}
		}
		told(t, s)
		focused(t, s, 0)
		gone(t, s, append(around(), 1)...)
	}
}

// TestNoSuchActor comes ahead of all else that is wrong.
func TestNoSuchActor(t *testing.T) {
	var l []refusal
	for _, actor := range []int{-1, -2, math.MinInt32, math.MinInt} {
		for _, kind := range kinds() {
			for _, win := range append(around(), 1, 3, 10, 11) {
				l = append(l, refusal{actor, api.Request{Kind: kind, Win: win, Rect: rect(0, 0, 1, 1), Prop: named("A", "x")}, api.ErrArg})
			}
		}
	}
	refuses(t, waiting, l...)
	refuses(t, stopped, l...)
	refuses(t, full, l...)
}

func TestManagerThatIsNotThere(t *testing.T) {
	var l []refusal
	for _, kind := range kinds() {
		for _, win := range append(around(), 1, 4, 10, 11) {
			l = append(l, refusal{manager, api.Request{Kind: kind, Win: win, Rect: rect(0, 0, 1, 1), Prop: named("A", "x")}, api.ErrArg})
		}
	}
	refuses(t, stopped, l...)
}

func TestNoSuchKind(t *testing.T) {
	var l []refusal
	for _, actor := range []int{manager, 1, 2, 3, math.MaxInt} {
		for _, kind := range kinds() {
			if 1 <= kind && kind <= 11 {
				continue
			}
			for _, win := range append(around(), 1, 2, 3, 11) {
				l = append(l, refusal{actor, api.Request{Kind: kind, Win: win, Other: win, Rect: rect(0, 0, 1, 1), Prop: named("A", "x")}, api.ErrArg})
			}
		}
	}
	refuses(t, waiting, l...)
	refuses(t, stopped, l...)
}

func TestCreateRefused(t *testing.T) {
	var l []refusal
	for _, r := range append(wrong(), right()...) {
		for _, c := range []struct{ actor, parent int }{{1, 3}, {1, 4}, {1, 5}, {1, 6}, {1, 9}, {2, 1}, {2, 2}, {2, 3}, {2, 7}, {2, 10}, {3, 1}, {3, 3}, {3, 4}, {math.MaxInt, 6}} {
			l = append(l, refusal{c.actor, creating(c.parent, r), api.ErrRefuse}) // wrong rectangles, too
		}
		for _, actor := range []int{manager, 1, 2, 3, math.MaxInt} {
			for _, parent := range append(around(), 11, 12, 13) {
				if parent != 0 {
					l = append(l, refusal{actor, creating(parent, r), api.ErrNone})
				}
			}
		}
	}
	for _, r := range wrong() {
		for _, c := range []struct{ actor, parent int }{{manager, 0}, {manager, 3}, {manager, 5}, {1, 0}, {1, 1}, {2, 4}, {3, 0}} {
			l = append(l, refusal{c.actor, creating(c.parent, r), api.ErrRect})
		}
	}
	refuses(t, waiting, l...)
}

// TestCreateOfOneMore: that there is no room is told last.
func TestCreateOfOneMore(t *testing.T) {
	ok, bad := rect(0, 0, 1, 1), rect(0, 0, -1, 1)
	refuses(t, full,
		refusal{1, creating(0, ok), api.ErrLimit}, refusal{1, creating(1, ok), api.ErrLimit}, refusal{manager, creating(0, ok), api.ErrLimit}, refusal{manager, creating(3, ok), api.ErrLimit}, refusal{9, creating(0, ok), api.ErrLimit},
		refusal{1, creating(0, bad), api.ErrRect}, refusal{manager, creating(2, bad), api.ErrRect}, refusal{1, creating(1025, ok), api.ErrNone}, refusal{manager, creating(-1, bad), api.ErrNone},
		refusal{1, creating(2, ok), api.ErrRefuse}, refusal{1, creating(3, bad), api.ErrRefuse}, refusal{2, creating(1, ok), api.ErrRefuse})
	s := full(t)
	done(t, s, 1, ask(api.ReqDestroy, 1))
	if id := done(t, s, 2, creating(0, ok)); id != api.MaxWindows+1 {
		t.Errorf("behind a destroyed one the next number is %d", id)
	}
	if id, e := s.Do(2, creating(0, ok)); id != 0 || e != api.ErrLimit {
		t.Errorf("one more: %d, %d", id, e)
	}
}

// TestForTheManagerAlone: a client may ask none of the three, of its own windows neither, whatever else is wrong; nor where there is no manager.
func TestForTheManagerAlone(t *testing.T) {
	var l []refusal
	for _, actor := range []int{1, 2, 3, math.MaxInt} {
		for _, kind := range []int{api.ReqFocus, api.ReqSave, api.ReqReparent} {
			for _, win := range append(around(), 1, 2, 3, 4, 5, 10, 11) {
				for _, other := range []int{0, 1, 3, 11, win} {
					for _, r := range []api.Rect{{}, rect(low-1, 0, 1, 1)} {
						l = append(l, refusal{actor, api.Request{Kind: kind, Win: win, Other: other, Rect: r}, api.ErrRefuse})
					}
				}
			}
		}
	}
	refuses(t, waiting, l...)
	refuses(t, stopped, l...)
}

func TestFocusSaveReparentRefused(t *testing.T) {
	var l []refusal
	for _, win := range append(around(), 11, 12, 13) {
		if win == 0 {
			continue
		}
		for _, kind := range []int{api.ReqFocus, api.ReqSave, api.ReqReparent} {
			for _, q := range faulty(kind, win) {
				l = append(l, refusal{manager, q, api.ErrNone})
			}
		}
	}
	for _, on := range []int{0, 1, -1, math.MaxInt} {
		for _, win := range []int{0, 3, 6} {
			l = append(l, refusal{manager, saving(win, on), api.ErrArg})
		}
	}
	l = append(l, refusal{manager, ask(api.ReqFocus, 10), api.ErrState})
	for _, q := range faulty(api.ReqReparent, 0) { // the root, into whatever
		l = append(l, refusal{manager, q, api.ErrArg})
	}
	for _, x := range []int{0, low - 1, high + 1, math.MinInt, math.MaxInt} {
		l = append(l, refusal{manager, putting(1, 11, x, 0), api.ErrNone}, refusal{manager, putting(1, -1, x, 0), api.ErrNone}, refusal{manager, putting(1, math.MaxInt, 0, x), api.ErrNone},
			refusal{manager, putting(1, 1, x, 0), api.ErrCycle}, refusal{manager, putting(1, 9, 0, x), api.ErrCycle}, refusal{manager, putting(3, 7, x, x), api.ErrCycle})
		if x != 0 {
			l = append(l, refusal{manager, putting(1, 3, x, 0), api.ErrRect}, refusal{manager, putting(1, 0, 0, x), api.ErrRect})
		}
	}
	l = append(l, refusal{manager, putting(1, 3, high-48, 0), api.ErrRect}, refusal{manager, putting(1, 0, 0, high-48), api.ErrRect}) // 50 wide and high
	refuses(t, waiting, l...)
}

// TestFocusOfWhatIsNotSeen: it is not mapped itself, or something around it is not.
func TestFocusOfWhatIsNotSeen(t *testing.T) {
	hidden := func(t *testing.T) *server.Server {
		s := waiting(t)
		done(t, s, manager, ask(api.ReqUnmap, 3))
		return s
	}
	var l []refusal
	for _, id := range []int{3, 4, 5, 6, 7, 8, 10} {
		l = append(l, refusal{manager, ask(api.ReqFocus, id), api.ErrState})
	}
	refuses(t, hidden, l...)
	s := hidden(t)
	s.Do(manager, ask(api.ReqFocus, 7))
	focused(t, s, 2) // it stays where it was
}

// TestChangesRefused: no window ahead of the root, and that ahead of another's; these ahead of all that is wrong with what is asked.
func TestChangesRefused(t *testing.T) {
	var l []refusal
	for _, kind := range changes() {
		for _, actor := range []int{manager, 1, 3, math.MaxInt} {
			for _, win := range append(around(), 11, 13) {
				want := api.ErrNone
				if win == 0 {
					want = api.ErrArg
				}
				for _, q := range faulty(kind, win) {
					l = append(l, refusal{actor, q, want})
				}
			}
		}
		for _, actor := range []int{1, 2, 3, math.MaxInt} {
			for _, win := range others(actor) {
				for _, q := range faulty(kind, win) {
					l = append(l, refusal{actor, q, api.ErrRefuse})
				}
			}
		}
	}
	refuses(t, waiting, l...)
}

// TestOthersWithoutManager: what is another's may not be changed then either.
func TestOthersWithoutManager(t *testing.T) {
	var l []refusal
	for _, kind := range changes() {
		for actor := 1; actor <= 3; actor++ {
			for _, win := range others(actor) {
				q := api.Request{Kind: kind, Win: win, Rect: rect(1, 1, 1, 1), Prop: named("A", "x")}
				want := api.ErrRefuse
				if win == 3 || win == 6 { // these are gone
					want = api.ErrNone
				}
				l = append(l, refusal{actor, q, want})
			}
		}
	}
	refuses(t, stopped, l...)
}

// each lists an actor with a window of its own, foreign or not, and the manager with all of them.
func each() [][2]int {
	var l [][2]int
	for actor := 1; actor <= 2; actor++ {
		own, foreign := ownIn(actor)
		for _, win := range append(own, foreign...) {
			l = append(l, [2]int{actor, win}, [2]int{manager, win})
		}
	}
	return append(l, [2]int{manager, 3}, [2]int{manager, 6})
}

func TestPropRefused(t *testing.T) {
	var l []refusal
	for _, c := range each() {
		for want, props := range notProps() {
			for _, p := range props {
				l = append(l, refusal{c[0], setting(c[1], p), want})
			}
		}
	}
	refuses(t, waiting, l...)
}

// TestOnePropMore than a window may have.
func TestOnePropMore(t *testing.T) {
	crowded := func(t *testing.T) *server.Server {
		s := family(t)
		for _, id := range []int{2, 7} {
			for n := range api.MaxProps {
				done(t, s, 1, setting(id, named(fmt.Sprint("P", n), "")))
			}
		}
		s.Events()
		return s
	}
	refuses(t, crowded, refusal{1, setting(2, named("C", "")), api.ErrLimit}, refusal{1, setting(7, named("C", "")), api.ErrLimit}, refusal{manager, setting(2, named("C", "")), api.ErrLimit}, refusal{1, setting(2, named("c c", "")), api.ErrName})
	s := crowded(t)
	done(t, s, 1, setting(2, named("P7", "in its place")))
	told(t, s, api.Event{Kind: api.EvProp, Win: 2, Name: "P7"})
}

func TestMoveRefused(t *testing.T) {
	var l []refusal
	for _, c := range each() {
		for _, r := range wrong() {
			l = append(l, refusal{c[0], moving(c[1], r), api.ErrRect})
		}
	}
	refuses(t, waiting, l...)
}

func TestMoveRefusedWithoutManager(t *testing.T) {
	var l []refusal
	for _, r := range wrong() {
		l = append(l, refusal{1, moving(1, r), api.ErrRect}, refusal{1, moving(2, r), api.ErrRect}, refusal{2, moving(9, r), api.ErrRect})
	}
	refuses(t, stopped, l...)
}

// TestOrderIsTheManagers, where a window is foreign.
func TestOrderIsTheManagers(t *testing.T) {
	var l []refusal
	for client := 1; client <= 2; client++ {
		_, foreign := ownIn(client)
		for _, id := range foreign {
			l = append(l, refusal{client, ask(api.ReqRaise, id), api.ErrRefuse}, refusal{client, ask(api.ReqLower, id), api.ErrRefuse})
		}
	}
	refuses(t, waiting, l...)
}

// TestForeignIsAsItStands: what is put into another parent is foreign there, or not.
func TestForeignIsAsItStands(t *testing.T) {
	s := family(t)
	for _, c := range []struct {
		client, id, parent int
		want               api.Errno
	}{
		{1, 2, 0, api.ErrRefuse}, {1, 2, 1, api.OK}, {1, 2, 5, api.ErrRefuse}, {1, 2, 7, api.OK}, {1, 2, 6, api.ErrRefuse}, {1, 1, 10, api.OK}, {2, 9, 8, api.ErrRefuse}, {2, 9, 5, api.OK}, {2, 5, 3, api.ErrRefuse}, {2, 9, 5, api.OK},
	} {
		done(t, s, manager, putting(c.id, c.parent, 0, 0))
		for _, kind := range []int{api.ReqRaise, api.ReqLower} {
			if _, e := s.Do(c.client, ask(kind, c.id)); e != c.want {
				t.Errorf("%d in %d: Do(%d, %d) = %d, not %d", c.id, c.parent, c.client, kind, e, c.want)
			}
		}
	}
}

// TestStartAndStopRefused change nothing.
func TestStartAndStopRefused(t *testing.T) {
	s := waiting(t)
	if e := s.Start(); e != api.ErrState || used(s) != used(waiting(t)) {
		t.Errorf("Start, where there is a manager: %d", e)
	}
	s = stopped(t)
	if e := s.Stop(); e != api.ErrState || used(s) != used(stopped(t)) {
		t.Errorf("Stop, where there is none: %d", e)
	}
}
