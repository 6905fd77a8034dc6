package region_test

import (
	"slices"
	"testing"

	"casement/api"
	"casement/region"
)

func within(r api.Rect, x, y int) bool {
	return r.X <= x && x < r.X+r.W && r.Y <= y && y < r.Y+r.H
}

// board is a small part of the plane.
type board struct {
	corner api.Point
	side   int
}

// boards of the plane: one in its middle, and each in one of its corners.
func boards(side int) []board {
	end := high + 1 - side
	return []board{{place(-2, -3), side}, {place(low, low), side}, {place(end, low), side}, {place(low, end), side}, {place(end, end), side}}
}

// form makes the one form of a board's places by its words, place by place and row by row.
func (b board) form(has func(x, y int) bool) []api.Rect {
	var done, last []api.Rect
	for y := b.corner.Y; y < b.corner.Y+b.side; y++ {
		row := b.runs(y, has)
		if alike(last, row) {
			for i := range last {
				last[i].H++
			}
			continue
		}
		done, last = append(done, last...), row
	}
	return append(done, last...)
}

func (b board) runs(y int, has func(x, y int) bool) []api.Rect {
	var row []api.Rect
	for x := b.corner.X; x < b.corner.X+b.side; x++ {
		switch {
		case !has(x, y):
		case len(row) > 0 && x > b.corner.X && has(x-1, y):
			row[len(row)-1].W++
		default:
			row = append(row, rect(x, y, 1, 1))
		}
	}
	return row
}

func alike(a, b []api.Rect) bool {
	return slices.EqualFunc(a, b, func(r, s api.Rect) bool { return r.X == s.X && r.W == s.W })
}

// inSet tells the places of rectangles, one by one.
func inSet(l []api.Rect) func(x, y int) bool {
	return func(x, y int) bool {
		return slices.ContainsFunc(l, func(r api.Rect) bool { return within(r, x, y) })
	}
}

// dice gives numbers that are the same each time.
func dice(seed uint32) func(n int) int {
	return func(n int) int {
		seed = seed*1664525 + 1013904223
		return int(seed>>8) % n
	}
}

// throw makes up to n rectangles of a board, some of them empty.
func (b board) throw(roll func(n int) int, n int) []api.Rect {
	var l []api.Rect
	for range roll(n + 1) {
		x, y := roll(b.side), roll(b.side)
		l = append(l, rect(b.corner.X+x, b.corner.Y+y, roll(b.side-x+1), roll(b.side-y+1)))
	}
	return l
}

// fieldsOf makes the set of those places of a board whose bits are set, one rectangle a place.
func (b board) fieldsOf(bits int) []api.Rect {
	var l []api.Rect
	for i := range b.side * b.side {
		if bits>>i&1 == 1 {
			l = append(l, rect(b.corner.X+i%b.side, b.corner.Y+i/b.side, 1, 1))
		}
	}
	return l
}

func must(t *testing.T, call maker, a, b []api.Rect) []api.Rect {
	t.Helper()
	l, e := call(a, b)
	if e != api.OK {
		t.Fatalf("of %v and %v: %d", a, b, e)
	}
	return l
}

// check holds all three against the places, one by one, and what follows from them.
func (b board) check(t *testing.T, m, n []api.Rect) {
	t.Helper()
	inM, inN := inSet(m), inSet(n)
	union, inter, sub := must(t, region.Union, m, n), must(t, region.Inter, m, n), must(t, region.Sub, m, n)
	if want := b.form(func(x, y int) bool { return inM(x, y) || inN(x, y) }); !slices.Equal(union, want) {
		t.Fatalf("Union(%v, %v) = %v, not %v", m, n, union, want)
	}
	if want := b.form(func(x, y int) bool { return inM(x, y) && inN(x, y) }); !slices.Equal(inter, want) {
		t.Fatalf("Inter(%v, %v) = %v, not %v", m, n, inter, want)
	}
	if want := b.form(func(x, y int) bool { return inM(x, y) && !inN(x, y) }); !slices.Equal(sub, want) {
		t.Fatalf("Sub(%v, %v) = %v, not %v", m, n, sub, want)
	}
	if !slices.Equal(union, must(t, region.Union, n, m)) || !slices.Equal(inter, must(t, region.Inter, n, m)) {
		t.Fatalf("%v and %v do not commute", m, n)
	}
	first := must(t, region.Union, m, nil)
	if !slices.Equal(must(t, region.Union, inter, sub), first) {
		t.Fatalf("%v and %v: what both have, %v, and the first alone, %v, are not the first", m, n, inter, sub)
	}
	if area(t, union) != area(t, m)+area(t, must(t, region.Sub, n, m)) || area(t, m) != area(t, inter)+area(t, sub) {
		t.Fatalf("%v and %v: the numbers of their places", m, n)
	}
}

func area(t *testing.T, l []api.Rect) int {
	t.Helper()
	n, e := region.Area(l)
	if e != api.OK {
		t.Fatalf("Area(%v): %d", l, e)
	}
	return n
}

// TestSmallSets goes through all sets of a board of two, by two, and many of a board of three.
func TestSmallSets(t *testing.T) {
	for _, b := range boards(2) {
		for m := range 1 << 4 {
			for n := range 1 << 4 {
				b.check(t, b.fieldsOf(m), b.fieldsOf(n))
			}
		}
	}
	b := board{place(-1, -1), 3}
	for m := range 1 << 9 {
		for n := m % 7; n < 1<<9; n += 7 {
			b.check(t, b.fieldsOf(m), b.fieldsOf(n))
		}
	}
}

// TestThrownSets: rectangles that touch, overlap, hold one another, by chance that is the same each time.
func TestThrownSets(t *testing.T) {
	roll := dice(1)
	for _, b := range append(boards(5), boards(9)...) {
		for range 300 {
			b.check(t, b.throw(roll, 4), b.throw(roll, 4))
		}
		for range 50 {
			b.check(t, b.throw(roll, 12), b.throw(roll, 12))
		}
	}
}

// TestOneForm: sets have the same form just if they have the same places.
func TestOneForm(t *testing.T) {
	b := board{place(0, 0), 3}
	forms := map[string]int{}
	for bits := range 1 << 9 {
		form := must(t, region.Union, b.fieldsOf(bits), nil)
		if !slices.Equal(must(t, region.Union, form, nil), form) || !slices.Equal(must(t, region.Union, nil, form), form) {
			t.Fatalf("the form of %v is not its own", form)
		}
		key := ""
		for _, r := range form {
			key += string([]byte{byte('0' + r.X), byte('0' + r.Y), byte('0' + r.W), byte('0' + r.H)})
		}
		if other, ok := forms[key]; ok {
			t.Fatalf("%b and %b have the same form %v", other, bits, form)
		}
		forms[key] = bits
	}
}

// TestHoweverCut: of places that are cut into rectangles otherwise, in another order, or are there more than once, there is the same form.
func TestHoweverCut(t *testing.T) {
	roll := dice(7)
	for _, b := range boards(6) {
		for range 200 {
			l := b.throw(roll, 6)
			form := must(t, region.Union, l, nil)
			var cut []api.Rect
			for _, r := range l {
				cut = append(cut, pieces(roll, r)...)
			}
			cut = append(cut, l[:roll(len(l)+1)]...)
			for i := range cut {
				j := roll(i + 1)
				cut[i], cut[j] = cut[j], cut[i]
			}
			at := roll(len(cut) + 1)
			if got := must(t, region.Union, cut[:at], cut[at:]); !slices.Equal(got, form) {
				t.Fatalf("%v is %v, cut into %v is %v", l, form, cut, got)
			}
		}
	}
}

// pieces cuts a rectangle, both ways; those without places go, as they may begin behind the plane's edge.
func pieces(roll func(n int) int, r api.Rect) []api.Rect {
	w, h := roll(r.W+1), roll(r.H+1)
	l := list(rect(r.X, r.Y, w, h), rect(r.X, r.Y+h, w, r.H-h), rect(r.X+w, r.Y, r.W-w, h), rect(r.X+w, r.Y+h, r.W-w, r.H-h))
	return slices.DeleteFunc(l, func(p api.Rect) bool { return p.W == 0 || p.H == 0 })
}

// TestAsked: a place is in a set just if it is in the set's form, and the bounds are those of the form.
func TestAsked(t *testing.T) {
	roll := dice(3)
	for _, b := range boards(6) {
		for range 60 {
			l := b.throw(roll, 5)
			form, in := must(t, region.Union, l, nil), inSet(l)
			for x := b.corner.X - 1; x <= b.corner.X+b.side; x++ {
				for y := b.corner.Y - 1; y <= b.corner.Y+b.side; y++ {
					if p := place(x, y); region.Has(l, p) != in(x, y) || region.Has(form, p) != in(x, y) {
						t.Fatalf("Has(%v, %v): %v; in the form %v: %v", l, p, region.Has(l, p), form, region.Has(form, p))
					}
				}
			}
			if region.Bounds(l) != region.Bounds(form) {
				t.Fatalf("Bounds(%v) = %v, of its form %v", l, region.Bounds(l), region.Bounds(form))
			}
		}
	}
}
