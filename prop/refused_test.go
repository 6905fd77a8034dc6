package prop_test

import (
	"strings"
	"testing"

	"casement/api"
	"casement/prop"
)

// notNames are no names, each for a reason of its own.
func notNames() []string {
	return []string{"", " ", "a b", "a-b", "\u00e9", "\xff", "A\x00", strings.Repeat("a", 33), strings.Repeat("a", 1<<16)}
}

// tooMuch is more data than a property may have.
func tooMuch() []string {
	return []string{strings.Repeat("x", 257), strings.Repeat("\x00", 257), strings.Repeat("\u20ac", 86), strings.Repeat("x", 512), strings.Repeat("x", 1<<16+4)}
}

// wrongNames are properties of which Name or Type is no name, with data that may be and data that may not.
func wrongNames() []api.Prop {
	var l []api.Prop
	for _, data := range append(tooMuch(), "", "x", strings.Repeat("x", 256)) {
		for _, s := range notNames() {
			l = append(l, one(s, "T", data), one("Q", s, data), one(nameOf(0), s, data), one(s, s, data))
		}
	}
	return l
}

// wrongData are properties that have more data than they may, and nothing else wrong.
func wrongData() []api.Prop {
	var l []api.Prop
	for _, data := range tooMuch() {
		l = append(l, one("Q", "T", data), one(nameOf(0), "T", data), one(strings.Repeat("a", 32), strings.Repeat("a", 32), data))
	}
	return l
}

// refuses tells whether each is refused, of windows with and without properties, and changes nothing.
func refuses(t *testing.T, p *prop.Table, want api.Errno, l ...api.Prop) {
	t.Helper()
	before := whole(p)
	for _, win := range []int{-1, 0, 7, 8} {
		for _, one := range l {
			if e := p.Set(win, one); e != want {
				t.Errorf("Set(%d, %.40q) = %d, not %d", win, one, e, want)
			}
		}
	}
	if whole(p) != before {
		t.Errorf("what was refused with %d changed the table", want)
	}
}

func TestNoTable(t *testing.T) {
	for _, p := range []*prop.Table{nil, {}, new(prop.Table)} {
		refuses(t, p, api.ErrNil, one("A", "T", ""), one(nameOf(0), "T", "x"))
		refuses(t, p, api.ErrNil, wrongNames()...)
		refuses(t, p, api.ErrNil, wrongData()...)
		for _, win := range windows() {
			p.Drop(win)
			holds(t, p, win)
			lacks(t, p, win, "", "A", "a b", nameOf(0))
			if p.Remove(win, "A") || p.Remove(win, "") || p.Remove(win, nameOf(0)) {
				t.Errorf("no table: Remove(%d)", win)
			}
		}
		refuses(t, p, api.ErrNil, one("A", "T", "")) // nor is it one behind these
	}
}

// TestRefused holds the first error ahead of each other one that may come with it: of an empty table, of one that has room, of a window with one property less than it may have, and of one that may have no more.
func TestRefused(t *testing.T) {
	for _, count := range []int{0, 1, most - 1, most} {
		p := filled(t, 7, count)
		refuses(t, p, api.ErrName, wrongNames()...)
		refuses(t, p, api.ErrData, wrongData()...)
		for _, win := range []int{-1, 0, 8} {
			holds(t, p, win)
		}
		if n := len(p.List(7)); n != count {
			t.Errorf("%d properties, not %d", n, count)
		}
	}
}

// TestRefusedLeavesNoTrace: what was refused counts for nothing among those that a window may have.
func TestRefusedLeavesNoTrace(t *testing.T) {
	p := prop.New()
	for range most {
		refuses(t, p, api.ErrName, wrongNames()[:4]...)
		refuses(t, p, api.ErrData, wrongData()[:3]...)
	}
	for n := range most {
		set(t, p, 7, one(nameOf(n), "T", strings.Repeat("x", 256)))
	}
	if e := p.Set(7, one("Q", "T", "")); e != api.ErrLimit {
		t.Errorf("one more: %d", e)
	}
	if e := p.Set(7, one(nameOf(0), "T", "new")); e != api.OK {
		t.Errorf("in place of one: %d", e)
	}
}
