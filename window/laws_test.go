package window_test

import (
	"fmt"
	"slices"
	"testing"

	"casement/api"
	"casement/window"
)

// dice gives numbers that are the same each time.
func dice(seed uint32) func(n int) int {
	return func(n int) int {
		seed = seed*1664525 + 1013904223
		return int(seed>>8) % n
	}
}

const (
	rootWide = 13
	rootHigh = 11
)

// byWords is a tree as the chapter's words say: all windows in one list, in which those of one parent stand from the lowest.
type byWords struct {
	list []api.Window
	made int
}

func wordsOf(r api.Rect) *byWords {
	return &byWords{list: []api.Window{{Parent: -1, Rect: r, Mapped: true}}}
}

func (m *byWords) at(id int) int {
	return slices.IndexFunc(m.list, func(w api.Window) bool { return w.ID == id })
}

func (m *byWords) kids(id int) []int {
	var l []int
	for _, w := range m.list {
		if w.Parent == id {
			l = append(l, w.ID)
		}
	}
	return l
}

// way lists the windows from one to the root.
func (m *byWords) way(id int) []api.Window {
	var l []api.Window
	for i := m.at(id); i >= 0; i = m.at(m.list[i].Parent) {
		l = append(l, m.list[i])
	}
	return l
}

func (m *byWords) isIn(id, other int) bool {
	return slices.ContainsFunc(m.way(id), func(w api.Window) bool { return w.ID == other })
}

func (m *byWords) fault(id int) api.Errno {
	switch {
	case m.at(id) < 0:
		return api.ErrNone
	case id == 0:
		return api.ErrArg
	}
	return api.OK
}

func onPlane(v int) bool { return low <= v && v <= high }

// right: the first place is on the plane, and so is each other one.
func right(r api.Rect) bool {
	return onPlane(r.X) && onPlane(r.Y) && r.W >= 0 && r.H >= 0 && (r.W == 0 || onPlane(r.X+r.W-1)) && (r.H == 0 || onPlane(r.Y+r.H-1))
}

func (m *byWords) create(parent int, r api.Rect) (int, api.Errno) {
	if m.at(parent) < 0 {
		return 0, api.ErrNone
	}
	if !right(r) {
		return 0, api.ErrRect
	}
	m.made++
	m.list = append(m.list, api.Window{ID: m.made, Parent: parent, Rect: r})
	return m.made, api.OK
}

func (m *byWords) destroy(id int) ([]int, api.Errno) {
	if e := m.fault(id); e != api.OK {
		return nil, e
	}
	var ended []int
	for _, kid := range m.kids(id) {
		l, _ := m.destroy(kid)
		ended = append(ended, l...)
	}
	i := m.at(id)
	m.list = slices.Delete(m.list, i, i+1)
	return append(ended, id), api.OK
}

// changed takes a window out, and puts what becomes of it at an end of the list, or back where it was.
func (m *byWords) changed(w api.Window, where int) {
	i := m.at(w.ID)
	switch where {
	case 0:
		m.list[i] = w
	case 1:
		m.list = append(slices.Delete(m.list, i, i+1), w)
	case -1:
		m.list = slices.Insert(slices.Delete(m.list, i, i+1), 0, w)
	}
}

func (m *byWords) reparent(id, parent int, at api.Point) api.Errno {
	if e := m.fault(id); e != api.OK {
		return e
	}
	w := m.list[m.at(id)]
	w.Parent, w.Rect.X, w.Rect.Y = parent, at.X, at.Y
	switch {
	case m.at(parent) < 0:
		return api.ErrNone
	case m.isIn(parent, id):
		return api.ErrCycle
	case !right(w.Rect):
		return api.ErrRect
	}
	m.changed(w, 1)
	return api.OK
}

func (m *byWords) configure(id int, r api.Rect) api.Errno {
	if e := m.fault(id); e != api.OK {
		return e
	}
	if !right(r) {
		return api.ErrRect
	}
	w := m.list[m.at(id)]
	w.Rect = r
	m.changed(w, 0)
	return api.OK
}

func (m *byWords) show(id int, on bool) api.Errno {
	if e := m.fault(id); e != api.OK {
		return e
	}
	w := m.list[m.at(id)]
	w.Mapped = on
	m.changed(w, 0)
	return api.OK
}

func (m *byWords) move(id, where int) api.Errno {
	if e := m.fault(id); e != api.OK {
		return e
	}
	m.changed(m.list[m.at(id)], where)
	return api.OK
}

func (m *byWords) abs(id int) (api.Point, bool) {
	var p api.Point
	for _, w := range m.way(id) {
		if w.ID != 0 {
			p.X, p.Y = p.X+w.Rect.X, p.Y+w.Rect.Y
		}
	}
	return p, m.at(id) >= 0
}

func (m *byWords) viewable(id int) bool {
	return m.at(id) >= 0 && !slices.ContainsFunc(m.way(id), func(w api.Window) bool { return !w.Mapped })
}

// screen paints each window over those below it, within what is to be seen of its parent.
type screen [rootHigh][rootWide]int

func (m *byWords) paint(s *screen, id int, may [rootHigh][rootWide]bool) {
	corner, _ := m.abs(id)
	one := m.list[m.at(id)]
	for y := range rootHigh {
		for x := range rootWide {
			may[y][x] = may[y][x] && corner.X <= x && x < corner.X+one.Rect.W && corner.Y <= y && y < corner.Y+one.Rect.H
			if may[y][x] {
				s[y][x] = id
			}
		}
	}
	for _, kid := range m.kids(id) {
		if m.list[m.at(kid)].Mapped {
			m.paint(s, kid, may)
		}
	}
}

func (m *byWords) screen() *screen {
	var may [rootHigh][rootWide]bool
	for y := range rootHigh {
		for x := range rootWide {
			may[y][x] = true
		}
	}
	s := &screen{}
	m.paint(s, 0, may)
	return s
}

// pair is a tree, and what it should be.
type pair struct {
	got  *window.Tree
	want *byWords
}

func throwRect(roll func(n int) int) api.Rect {
	r := rect(roll(16)-4, roll(14)-4, roll(12), roll(10))
	switch roll(24) {
	case 0:
		r.W = -r.W
	case 1:
		r.H = high + 1
	case 2:
		r.X = low - roll(2)
	}
	return r
}

func throwPlace(roll func(n int) int) api.Point {
	if roll(16) == 0 {
		return place(high-roll(12), low-roll(2))
	}
	return place(roll(12)-3, roll(10)-3)
}

// step does one thing to both, and tells what was done, with what came of it.
func (c pair) step(roll func(n int) int) (name string, got, want any) {
	id, other, r := c.throwID(roll), c.throwID(roll), throwRect(roll)
	switch roll(9) {
	case 0, 1:
		n, e := c.got.Create(id, r)
		m, f := c.want.create(id, r)
		return fmt.Sprint("Create", id, r), [2]int{n, int(e)}, [2]int{m, int(f)}
	case 2:
		if roll(2) == 0 { // most trees are to grow
			return "nothing", nil, nil
		}
		l, e := c.got.Destroy(id)
		m, f := c.want.destroy(id)
		return fmt.Sprint("Destroy", id), fmt.Sprint(l, e), fmt.Sprint(m, f)
	case 3:
		at := throwPlace(roll)
		return fmt.Sprint("Reparent", id, other, at), c.got.Reparent(id, other, at), c.want.reparent(id, other, at)
	case 4:
		return fmt.Sprint("Configure", id, r), c.got.Configure(id, r), c.want.configure(id, r)
	case 5:
		return fmt.Sprint("Raise", id), c.got.Raise(id), c.want.move(id, 1)
	case 6:
		return fmt.Sprint("Lower", id), c.got.Lower(id), c.want.move(id, -1)
	}
	on := roll(4) > 0
	return fmt.Sprint("Map", id, on), c.got.Map(id, on), c.want.show(id, on)
}

// throwID names mostly windows that are there.
func (c pair) throwID(roll func(n int) int) int {
	if roll(8) == 0 {
		return roll(c.want.made+3) - 1
	}
	return c.want.list[roll(len(c.want.list))].ID
}

// alike holds all that both tell.
func (c pair) alike(t *testing.T, name string) {
	t.Helper()
	if n := c.got.Len(); n != len(c.want.list)-1 {
		t.Fatalf("%s: Len = %d, not %d", name, n, len(c.want.list)-1)
	}
	for id := -1; id <= c.want.made+1; id++ {
		var one api.Window
		if i := c.want.at(id); i >= 0 {
			one = c.want.list[i]
		}
		p, in := c.want.abs(id)
		if got, ok := c.got.Get(id); got != one || ok != in {
			t.Fatalf("%s: Get(%d) = %v, %v, not %v", name, id, got, ok, one)
		}
		if got, ok := c.got.Abs(id); got != p || ok != in {
			t.Fatalf("%s: Abs(%d) = %v, %v, not %v", name, id, got, ok, p)
		}
		if got, want := c.got.Viewable(id), c.want.viewable(id); got != want {
			t.Fatalf("%s: Viewable(%d) = %v", name, id, got)
		}
		if got, want := c.got.Kids(id), c.want.kids(id); in && !slices.Equal(got, want) || !in && len(got) != 0 {
			t.Fatalf("%s: Kids(%d) = %v, not %v", name, id, got, want)
		}
	}
	screen := c.want.screen()
	for y := -1; y <= rootHigh; y++ {
		for x := -1; x <= rootWide; x++ {
			id, in := 0, 0 <= x && x < rootWide && 0 <= y && y < rootHigh
			if in {
				id = screen[y][x]
			}
			if got, ok := c.got.Under(place(x, y)); got != id || ok != in {
				t.Fatalf("%s: Under(%d, %d) = %d, %v, not %d, %v", name, x, y, got, ok, id, in)
			}
		}
	}
}

// TestThrownSteps holds trees against the chapter's words, behind each of many steps.
func TestThrownSteps(t *testing.T) {
	roll := dice(3)
	for range 60 {
		r := rect(roll(9)-4, roll(9)-4, rootWide, rootHigh)
		c := pair{tree(t, r), wordsOf(r)}
		for n := range 150 {
			name, got, want := c.step(roll)
			name = fmt.Sprint("behind step ", n, ", ", name)
			if got != want {
				t.Fatalf("%s: %v, not %v", name, got, want)
			}
			c.alike(t, name)
		}
	}
}

// grown is a tree of thrown windows.
func grown(t *testing.T, roll func(n int) int) *window.Tree {
	t.Helper()
	r := rect(0, 0, rootWide, rootHigh)
	c := pair{tree(t, r), wordsOf(r)}
	for range 80 {
		c.step(roll)
	}
	return c.got
}

// there lists the windows of a tree but the root.
func there(w *window.Tree) []api.Window {
	var l []api.Window
	for id := 1; len(l) < w.Len(); id++ {
		if one, ok := w.Get(id); ok {
			l = append(l, one)
		}
	}
	return l
}

// below lists a window, and all in it.
func below(w *window.Tree, id int) []int {
	l := []int{id}
	for _, kid := range w.Kids(id) {
		l = append(l, below(w, kid)...)
	}
	return l
}

// TestEachWayEndsAtTheRoot, and each window is once among its parent's, and among no other one's.
func TestEachWayEndsAtTheRoot(t *testing.T) {
	roll := dice(7)
	for range 200 {
		w := grown(t, roll)
		times := map[int]int{}
		for _, one := range append(there(w), api.Window{}) {
			for _, kid := range w.Kids(one.ID) {
				times[kid]++
				if k, ok := w.Get(kid); k.Parent != one.ID || !ok {
					t.Fatalf("%d is in %d, and says %v", kid, one.ID, k)
				}
			}
		}
		for _, one := range there(w) {
			id := one.ID
			for n := 0; id != 0; n++ {
				up, ok := w.Get(id)
				if n > w.Len() || !ok {
					t.Fatalf("the way from %d does not end at the root", one.ID)
				}
				id = up.Parent
			}
			if times[one.ID] != 1 || one.Parent == -1 {
				t.Fatalf("%v is %d times among its parent's", one, times[one.ID])
			}
		}
		if len(times) != w.Len() {
			t.Fatalf("%d windows are in others, %d there", len(times), w.Len())
		}
	}
}

// about tells what a window says of itself, but where it is.
func about(w *window.Tree, id int) string {
	one, ok := w.Get(id)
	return fmt.Sprint(one, ok, w.Kids(id), w.Viewable(id))
}

// TestDestroyedChangesNoOther: what is left says what it said; its parent's order is less it alone.
func TestDestroyedChangesNoOther(t *testing.T) {
	roll := dice(13)
	for range 300 {
		w := grown(t, roll)
		l := there(w)
		if len(l) == 0 {
			continue
		}
		doomed := l[roll(len(l))]
		before, corners := map[int]string{}, map[int]api.Point{}
		for _, one := range l {
			before[one.ID] = about(w, one.ID)
			corners[one.ID], _ = w.Abs(one.ID)
		}
		order := slices.DeleteFunc(w.Kids(doomed.Parent), func(n int) bool { return n == doomed.ID })
		inIt := below(w, doomed.ID)
		ended, e := w.Destroy(doomed.ID)
		slices.Sort(inIt)
		if sorted := slices.Sorted(slices.Values(ended)); e != api.OK || !slices.Equal(sorted, inIt) || ended[len(ended)-1] != doomed.ID {
			t.Fatalf("Destroy(%d) = %v, %d, not %v", doomed.ID, ended, e, inIt)
		}
		kids(t, w, doomed.Parent, order...)
		gone(t, w, ended...)
		for _, one := range there(w) {
			if p, _ := w.Abs(one.ID); p != corners[one.ID] || one.ID != doomed.Parent && about(w, one.ID) != before[one.ID] {
				t.Fatalf("Destroy(%d) changed %d: %s, not %s", doomed.ID, one.ID, about(w, one.ID), before[one.ID])
			}
		}
	}
}

// TestAllInItGoesAlong: what is put into another parent takes all in it with it, as it is.
func TestAllInItGoesAlong(t *testing.T) {
	roll, moved := dice(19), 0
	for range 900 {
		w := grown(t, roll)
		l := append(there(w), api.Window{})
		id, parent := l[roll(len(l))].ID, l[roll(len(l))].ID
		from, _ := w.Abs(id)
		inIt := below(w, id)
		before, corners := map[int]string{}, map[int]api.Point{}
		for _, in := range inIt {
			before[in] = fmt.Sprint(w.Get(in))
			corners[in], _ = w.Abs(in)
		}
		others := w.Len() - len(inIt)
		if w.Reparent(id, parent, place(roll(9)-4, roll(9)-4)) != api.OK {
			continue
		}
		moved++
		to, _ := w.Abs(id)
		if !slices.Equal(below(w, id), inIt) || w.Len() != others+len(inIt) {
			t.Fatalf("Reparent(%d, %d): %v is in it, not %v", id, parent, below(w, id), inIt)
		}
		for _, in := range inIt[1:] {
			p, _ := w.Abs(in)
			if p != place(corners[in].X+to.X-from.X, corners[in].Y+to.Y-from.Y) || fmt.Sprint(w.Get(in)) != before[in] {
				t.Fatalf("Reparent(%d, %d): %d is at %v, was at %v", id, parent, in, p, corners[in])
			}
		}
	}
	if moved < 200 {
		t.Errorf("only %d were moved", moved)
	}
}
