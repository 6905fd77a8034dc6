package server_test

import (
	"fmt"
	"maps"
	"slices"
	"strings"
	"testing"

	"casement/api"
	"casement/server"
)

// dice gives numbers that are the same each time.
func dice(seed uint32) func(n int) int {
	return func(n int) int {
		seed = seed*1664525 + 1013904223
		return int(seed>>8) % n
	}
}

// item is a window, with all that is known of it.
type item struct {
	api.Window
	maker int
	saved bool
	props map[string]api.Prop
}

// byWords is a display as the chapter's words say: all windows in one list, in which those of one parent stand from the lowest.
type byWords struct {
	list    []item
	made    int
	focus   int
	managed bool
	waiting []api.Event
}

func wordsOf(r api.Rect) *byWords {
	return &byWords{list: []item{{Window: api.Window{Parent: -1, Rect: r, Mapped: true}}}, managed: true}
}

func (m *byWords) at(id int) int {
	return slices.IndexFunc(m.list, func(w item) bool { return w.ID == id })
}

func (m *byWords) kids(id int) []int {
	var l []int
	for _, w := range m.list {
		if w.Parent == id {
			l = append(l, w.ID)
		}
	}
	return l
}

// way lists the windows from one to the root.
func (m *byWords) way(id int) []item {
	var l []item
	for i := m.at(id); i >= 0; i = m.at(m.list[i].Parent) {
		l = append(l, m.list[i])
	}
	return l
}

func (m *byWords) viewable(id int) bool {
	return m.at(id) >= 0 && !slices.ContainsFunc(m.way(id), func(w item) bool { return !w.Mapped })
}

func (m *byWords) abs(id int) (api.Point, bool) {
	var p api.Point
	for _, w := range m.way(id) {
		if w.ID != 0 {
			p.X, p.Y = p.X+w.Rect.X, p.Y+w.Rect.Y
		}
	}
	return p, m.at(id) >= 0
}

func onPlane(v int) bool { return low <= v && v <= high }

// fits tells whether a rectangle is right: the first place is on the plane, and so is each other one.
func fits(r api.Rect) bool {
	return onPlane(r.X) && onPlane(r.Y) && r.W >= 0 && r.H >= 0 && (r.W == 0 || onPlane(r.X+r.W-1)) && (r.H == 0 || onPlane(r.Y+r.H-1))
}

func (m *byWords) tell(e api.Event) {
	if m.managed && len(m.waiting) < mostWait {
		m.waiting = append(m.waiting, e)
	}
}

// where takes a window out, and puts what becomes of it at an end of the list.
func (m *byWords) where(w item, highest bool) {
	m.list = slices.DeleteFunc(m.list, func(o item) bool { return o.ID == w.ID })
	if highest {
		m.list = append(m.list, w)
	} else {
		m.list = slices.Insert(m.list, 0, w)
	}
}

func (m *byWords) destroy(id int) {
	for _, kid := range m.kids(id) {
		m.destroy(kid)
	}
	i := m.at(id)
	if m.list[i].maker != 0 {
		m.tell(api.Event{Kind: api.EvDestroyed, Win: id})
	}
	m.list = slices.Delete(m.list, i, i+1)
}

func (m *byWords) reparent(q api.Request) api.Errno {
	w := m.list[m.at(q.Win)]
	w.Parent, w.Rect.X, w.Rect.Y = q.Other, q.Rect.X, q.Rect.Y
	switch {
	case q.Win == 0:
		return api.ErrArg
	case m.at(q.Other) < 0:
		return api.ErrNone
	case slices.ContainsFunc(m.way(q.Other), func(o item) bool { return o.ID == q.Win }):
		return api.ErrCycle
	case !fits(w.Rect):
		return api.ErrRect
	}
	m.where(w, true)
	return api.OK
}

// asked is what Do does ahead of what comes of the focus.
func (m *byWords) asked(actor int, q api.Request) (int, api.Errno) {
	if actor < 0 || actor == 0 && !m.managed || q.Kind < 1 || q.Kind > 11 {
		return 0, api.ErrArg
	}
	client := actor > 0
	switch q.Kind {
	case api.ReqCreate:
		switch i := m.at(q.Other); {
		case client && i >= 0 && q.Other != 0 && m.list[i].maker != actor:
			return 0, api.ErrRefuse
		case i < 0:
			return 0, api.ErrNone
		case !fits(q.Rect):
			return 0, api.ErrRect
		}
		m.made++
		m.list = append(m.list, item{api.Window{ID: m.made, Parent: q.Other, Rect: q.Rect}, actor, false, map[string]api.Prop{}})
		return m.made, api.OK
	case api.ReqFocus, api.ReqSave, api.ReqReparent:
		return 0, m.managers(client, q)
	}
	i := m.at(q.Win)
	switch {
	case i < 0:
		return 0, api.ErrNone
	case q.Win == 0:
		return 0, api.ErrArg
	case client && m.list[i].maker != actor:
		return 0, api.ErrRefuse
	}
	around := m.list[m.at(m.list[i].Parent)]
	foreign := around.ID == 0 || around.maker != m.list[i].maker
	return 0, m.changed(i, client, client && m.managed && foreign, q)
}

func (m *byWords) managers(client bool, q api.Request) api.Errno {
	i := m.at(q.Win)
	switch {
	case client:
		return api.ErrRefuse
	case i < 0:
		return api.ErrNone
	case q.Kind == api.ReqReparent:
		return m.reparent(q)
	case q.Kind == api.ReqSave:
		if q.Win == 0 || m.list[i].maker == 0 {
			return api.ErrArg
		}
		m.list[i].saved = q.Other != 0
		return api.OK
	case q.Win != 0 && !m.viewable(q.Win):
		return api.ErrState
	}
	m.focus = q.Win
	return api.OK
}

func (m *byWords) changed(i int, client, managers bool, q api.Request) api.Errno {
	w := &m.list[i]
	switch q.Kind {
	case api.ReqDestroy:
		m.destroy(q.Win)
	case api.ReqProp:
		if strings.Contains(q.Prop.Name, " ") || q.Prop.Type == "" {
			return api.ErrName
		}
		if len(q.Prop.Data) > api.MaxData {
			return api.ErrData
		}
		w.props[q.Prop.Name] = q.Prop
		if client {
			m.tell(api.Event{Kind: api.EvProp, Win: q.Win, Name: q.Prop.Name})
		}
	case api.ReqMap:
		if managers {
			m.tell(api.Event{Kind: api.EvMapRequest, Win: q.Win})
		} else {
			w.Mapped = true
		}
	case api.ReqUnmap:
		w.Mapped = false
		if managers {
			m.tell(api.Event{Kind: api.EvUnmapped, Win: q.Win})
		}
	case api.ReqMove:
		if !fits(q.Rect) {
			return api.ErrRect
		}
		if managers {
			m.tell(api.Event{Kind: api.EvMoveRequest, Win: q.Win, Rect: q.Rect})
		} else {
			w.Rect = q.Rect
		}
	case api.ReqRaise, api.ReqLower:
		if managers {
			return api.ErrRefuse
		}
		m.where(*w, q.Kind == api.ReqRaise)
	}
	return api.OK
}

func (m *byWords) do(actor int, q api.Request) (int, api.Errno) {
	id, e := m.asked(actor, q)
	if !m.viewable(m.focus) {
		m.focus = 0
	}
	return id, e
}

func (m *byWords) stop() api.Errno {
	if !m.managed {
		return api.ErrState
	}
	m.managed, m.waiting = false, nil
	for id := range m.made + 1 {
		i := m.at(id)
		if i < 0 || !m.list[i].saved {
			continue
		}
		w := m.list[i]
		p, _ := m.abs(id)
		w.Parent, w.saved = 0, false
		w.Rect.X = min(max(p.X, low), high+1-max(w.Rect.W, 1)) // no further than its last place goes
		w.Rect.Y = min(max(p.Y, low), high+1-max(w.Rect.H, 1))
		m.where(w, true)
	}
	for id := 1; id <= m.made; id++ {
		if i := m.at(id); i >= 0 && m.list[i].maker == 0 {
			m.destroy(id)
		}
	}
	if !m.viewable(m.focus) {
		m.focus = 0
	}
	return api.OK
}

func (m *byWords) start() api.Errno {
	if m.managed {
		return api.ErrState
	}
	m.managed = true
	return api.OK
}

// pair is a display, and what it should be.
type pair struct {
	got  *server.Server
	want *byWords
}

func begin(t *testing.T) pair {
	t.Helper()
	r := rect(-3, 5, 40, 30)
	return pair{display(t, r), wordsOf(r)}
}

// throwID names mostly windows that are there.
func (c pair) throwID(roll func(n int) int) int {
	if roll(12) == 0 {
		return roll(c.want.made+3) - 1
	}
	return c.want.list[roll(len(c.want.list))].ID
}

func throwRect(roll func(n int) int) api.Rect {
	r := rect(roll(40)-9, roll(30)-9, roll(20), roll(20))
	switch roll(16) {
	case 0:
		r.W = -r.W
	case 1:
		r.X = high - roll(20)
	case 2:
		r.X, r.Y = low+roll(9), low-roll(2)
	case 3:
		r.Y = high - roll(20)
	}
	return r
}

func throwProp(roll func(n int) int) api.Prop {
	p := named([]string{"A", "B", "C", "no name"}[roll(4)], strings.Repeat("x", roll(4)))
	switch roll(12) {
	case 0:
		p.Type = ""
	case 1:
		p.Data = strings.Repeat("y", api.MaxData+roll(2))
	}
	return p
}

// throwKind gives kinds of which there are windows enough.
func throwKind(roll func(n int) int) int {
	kind := roll(11) + 1
	switch {
	case roll(40) == 0:
		return roll(3) * 12 // none of the eleven
	case roll(3) == 0:
		return api.ReqCreate
	case kind == api.ReqDestroy && roll(3) == 0:
		return api.ReqMap
	}
	return kind
}

// throw makes a request that may mostly be: most are asked by whom the window is, or by the manager, where it alone may ask.
func (c pair) throw(roll func(n int) int) (int, api.Request) {
	q := api.Request{Kind: throwKind(roll), Win: c.throwID(roll), Other: c.throwID(roll), Rect: throwRect(roll), Prop: throwProp(roll)}
	actor, subject := roll(4), q.Win
	switch q.Kind {
	case api.ReqCreate:
		if roll(2) == 0 {
			q.Other = 0
		}
		subject = q.Other
	case api.ReqSave:
		q.Other = roll(3)
	}
	if i := c.want.at(subject); i > 0 && roll(4) > 0 {
		actor = c.want.list[i].maker
	}
	switch q.Kind {
	case api.ReqFocus, api.ReqSave, api.ReqReparent, api.ReqMap:
		if roll(6) > 0 {
			actor = manager
		}
	}
	if roll(60) == 0 {
		actor = -roll(3)
	}
	return actor, q
}

// step does one thing to both, and tells what was done, with what came of it.
func (c pair) step(roll func(n int) int) (name, got, want string) {
	switch roll(40) {
	case 0:
		return "Stop", fmt.Sprint(c.got.Stop()), fmt.Sprint(c.want.stop())
	case 1, 2:
		return "Start", fmt.Sprint(c.got.Start()), fmt.Sprint(c.want.start())
	case 3, 4, 5:
		l := c.want.waiting
		c.want.waiting = nil
		return "Events", fmt.Sprint(c.got.Events()), fmt.Sprint(l)
	}
	actor, q := c.throw(roll)
	id, e := c.got.Do(actor, q)
	n, f := c.want.do(actor, q)
	return fmt.Sprint("Do", actor, q), fmt.Sprint(id, e), fmt.Sprint(n, f)
}

// alike holds all that both tell.
func (c pair) alike(t *testing.T, name string) {
	t.Helper()
	if n := c.got.Focus(); n != c.want.focus {
		t.Fatalf("%s: Focus = %d, not %d", name, n, c.want.focus)
	}
	for id := -1; id <= c.want.made+1; id++ {
		var one item
		i := c.want.at(id)
		if i >= 0 {
			one = c.want.list[i]
		}
		p, in := c.want.abs(id)
		if got, ok := c.got.Get(id); got != one.Window || ok != in {
			t.Fatalf("%s: Get(%d) = %v, %v, not %v", name, id, got, ok, one)
		}
		if got, ok := c.got.Abs(id); got != p || ok != in {
			t.Fatalf("%s: Abs(%d) = %v, %v, not %v", name, id, got, ok, p)
		}
		if got, ok := c.got.Owner(id); got != one.maker || ok != (in && id != 0) {
			t.Fatalf("%s: Owner(%d) = %v, %v, not %v", name, id, got, ok, one.maker)
		}
		if got, want := c.got.Viewable(id), c.want.viewable(id); got != want {
			t.Fatalf("%s: Viewable(%d) = %v", name, id, got)
		}
		if got, want := c.got.Kids(id), c.want.kids(id); in && !slices.Equal(got, want) || !in && len(got) != 0 {
			t.Fatalf("%s: Kids(%d) = %v, not %v", name, id, got, want)
		}
		for _, prop := range []string{"A", "B", "C", "no name"} {
			want, has := one.props[prop]
			if got, ok := c.got.Prop(id, prop); got != want || ok != has {
				t.Fatalf("%s: Prop(%d, %s) = %v, %v, not %v", name, id, prop, got, ok, want)
			}
		}
	}
}

// TestThrownSteps holds displays against the chapter's words, behind each of many steps.
func TestThrownSteps(t *testing.T) {
	roll := dice(5)
	for range 100 {
		c := begin(t)
		for n := range 250 {
			name, got, want := c.step(roll)
			name = fmt.Sprint("behind step ", n, ", ", name)
			if got != want {
				t.Fatalf("%s: %s, not %s", name, got, want)
			}
			c.alike(t, name)
		}
	}
}

// TestThrownStepsAreOfAllKinds: else what is thrown would say little.
func TestThrownStepsAreOfAllKinds(t *testing.T) {
	roll, times := dice(5), map[string]int{}
	for range 100 {
		c := begin(t)
		for range 250 {
			for id := range c.want.made {
				if c.want.focus == id && id > 0 {
					times["focus"]++
				}
			}
			actor, q := c.throw(roll)
			if actor > 0 {
				actor = 1
			}
			_, e := c.want.do(actor, q)
			_, f := c.got.Do(actor, q)
			if e != f {
				t.Fatalf("Do(%d, %v) = %d, not %d", actor, q, f, e)
			}
			times[fmt.Sprint(q.Kind, " ", e)]++
			for _, event := range c.got.Events() {
				times[fmt.Sprint("event ", event.Kind)]++
			}
		}
	}
	for _, name := range []string{"focus", "1 0", "1 6", "1 10", "1 80", "2 0", "2 1", "2 6", "2 80", "3 0", "4 0", "5 0", "5 10", "6 0", "6 80", "7 0", "7 80", "8 0", "8 1", "8 6", "8 10", "8 61", "9 0", "9 8", "9 80", "10 0", "10 70", "10 71", "11 0", "11 1", "event 1", "event 2", "event 3", "event 4", "event 5"} {
		if times[name] < 10 {
			t.Errorf("%s came %d times", name, times[name])
		}
	}
}

// TestFocusIsViewable, or none, behind each step.
func TestFocusIsViewable(t *testing.T) {
	roll := dice(11)
	for range 60 {
		c := begin(t)
		for range 300 {
			name, _, _ := c.step(roll)
			if id := c.got.Focus(); id != 0 && !c.got.Viewable(id) {
				t.Fatalf("behind %s: %d has the focus, and is not viewable", name, id)
			}
		}
	}
}

// about tells what a window says of itself.
func about(s *server.Server, id int) string {
	w, ok := s.Get(id)
	maker, _ := s.Owner(id)
	l := []any{w, ok, maker}
	for _, name := range []string{"A", "B", "C"} {
		p, ok := s.Prop(id, name)
		l = append(l, p, ok)
	}
	return fmt.Sprint(l...)
}

// below lists a window, and all in it.
func below(s *server.Server, id int) []int {
	l := []int{id}
	for _, kid := range s.Kids(id) {
		l = append(l, below(s, kid)...)
	}
	return l
}

// TestClientsChangeTheirOwnAlone: what a client asks leaves all others' windows as they are (but what is in one that it ends), and the places and order of its foreign ones, while there is a manager.
func TestClientsChangeTheirOwnAlone(t *testing.T) {
	roll, done := dice(17), 0
	for range 300 {
		c := begin(t)
		for range 60 {
			c.step(roll)
		}
		c.got.Start()
		c.want.start()
		actor, q := c.throw(roll)
		if actor <= 0 {
			actor = 1 + roll(3)
		}
		before, fixed := map[int]string{}, map[int]api.Window{}
		for _, w := range c.want.list[1:] {
			around := c.want.list[max(c.want.at(w.Parent), 0)]
			if w.maker != actor {
				before[w.ID] = about(c.got, w.ID)
			} else if around.ID == 0 || around.maker != actor {
				fixed[w.ID], _ = c.got.Get(w.ID)
			}
		}
		orders := map[int][]int{}
		for _, w := range c.want.list {
			orders[w.ID] = c.got.Kids(w.ID)
		}
		ended := below(c.got, q.Win)
		if _, e := c.got.Do(actor, q); e != api.OK {
			continue
		}
		done++
		if q.Kind == api.ReqDestroy {
			for _, id := range ended {
				delete(before, id)
				delete(fixed, id)
			}
		}
		for id, want := range before {
			if got := about(c.got, id); got != want {
				t.Fatalf("Do(%d, %v) changed another's %d: %s, not %s", actor, q, id, got, want)
			}
		}
		for id, want := range fixed {
			got, ok := c.got.Get(id)
			order := slices.DeleteFunc(c.got.Kids(want.Parent), func(kid int) bool { return !slices.Contains(orders[want.Parent], kid) })
			was := slices.DeleteFunc(slices.Clone(orders[want.Parent]), func(kid int) bool { return q.Kind == api.ReqDestroy && slices.Contains(ended, kid) })
			if got.Rect != want.Rect || got.Parent != want.Parent || got.Mapped && !want.Mapped || !ok || want.Parent == 0 && !slices.Equal(order, was) {
				t.Fatalf("Do(%d, %v) changed where its %d stands: %v, not %v", actor, q, id, got, want)
			}
		}
	}
	if done < 100 {
		t.Errorf("only %d were done", done)
	}
}

// TestBehindStop there are no windows of the manager's, and every saved one is there, in the root, and as it was.
func TestBehindStop(t *testing.T) {
	roll, saved, ended := dice(23), 0, 0
	for range 400 {
		c := begin(t)
		for range 90 {
			c.step(roll)
		}
		if c.got.Start() == api.OK {
			c.want.start()
		}
		before, onIt := map[int]api.Window{}, true
		for _, w := range c.want.list {
			if w.saved {
				p, _ := c.got.Abs(w.ID)
				w.Parent, w.Rect.X, w.Rect.Y = 0, p.X, p.Y
				before[w.ID] = w.Window
				onIt = onIt && fits(w.Rect)
			}
		}
		own := slices.DeleteFunc(slices.Clone(c.want.list), func(w item) bool { return w.ID == 0 || w.maker != 0 })
		if e := c.got.Stop(); e != api.OK {
			t.Fatalf("Stop = %d", e)
		}
		c.want.stop()
		for _, w := range own {
			gone(t, c.got, w.ID)
			ended++
		}
		for _, id := range slices.Sorted(maps.Keys(before)) {
			w, ok := c.got.Get(id)
			want := before[id]
			if !onIt { // what had to stay on the plane takes those in it along
				want.Rect.X, want.Rect.Y = w.Rect.X, w.Rect.Y
			}
			if w != want || !ok {
				t.Fatalf("%d was saved, and is %v, %v, not %v", id, w, ok, want)
			}
			saved++
		}
		for id := range c.want.made + 1 {
			if maker, ok := c.got.Owner(id); ok && maker == 0 {
				t.Fatalf("%d is the manager's", id)
			}
		}
	}
	if saved < 100 || ended < 100 {
		t.Errorf("only %d were saved, and %d ended", saved, ended)
	}
}
