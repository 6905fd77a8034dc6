package area_test

import (
	"slices"
	"testing"

	"casement/api"
	"casement/area"
	"casement/geom"
	"casement/prop"
)

// dice gives numbers that are the same each time.
func dice(seed uint32) func(n int) int {
	return func(n int) int {
		seed = seed*1664525 + 1013904223
		return int(seed>>8) % n
	}
}

// thrownRect is one about the board of places from 0 to 9 each way; one of few is not right.
func thrownRect(roll func(int) int, most int) api.Rect {
	r := rect(roll(10), roll(10), roll(most+1), roll(most+1))
	if roll(150) == 0 {
		r.W = -1 - roll(3)
	}
	return r
}

// thrownScreens may be, or may be not: names come twice, or are none, at times.
func thrownScreens(roll func(int) int, most, side int) []api.Output {
	names := []string{"A", "B", "C", "D", "E", "F", "G", "H"}
	var l []api.Output
	for i := range roll(most + 1) {
		name := names[i%len(names)]
		if roll(30) == 0 {
			name = []string{"A", "B", "", "x y"}[roll(4)]
		}
		l = append(l, output(name, thrownRect(roll, side)))
	}
	return l
}

// placesOf are a right rectangle's, one by one.
func placesOf(r api.Rect) []api.Point {
	var l []api.Point
	for y := range r.H {
		for x := range r.W {
			l = append(l, place(r.X+x, r.Y+y))
		}
	}
	return l
}

func isRight(r api.Rect) bool { return r.W >= 0 && r.H >= 0 } // all that is thrown lies amid the plane

// mayBe is the chapter's words of Check, place by place.
func mayBe(l []api.Output) bool {
	places, names := map[api.Point]bool{}, map[string]bool{}
	for _, o := range l {
		own := placesOf(o.Rect)
		if !prop.Name(o.Name) || names[o.Name] || !isRight(o.Rect) || len(own) == 0 {
			return false
		}
		names[o.Name] = true
		for _, p := range own {
			if places[p] {
				return false
			}
			places[p] = true
		}
	}
	return true
}

// TestThrownCheck holds Check against the chapter's words.
func TestThrownCheck(t *testing.T) {
	roll := dice(1)
	good := 0
	for range 20000 {
		l := thrownScreens(roll, 5, 4)
		want := api.ErrOutput
		if mayBe(l) {
			want = api.OK
			good++
		}
		if e := area.Check(l); e != want {
			t.Fatalf("Check(%v) = %d, not %d", l, e, want)
		}
		for i := range l { // the order of them plays no part
			k := roll(i + 1)
			l[i], l[k] = l[k], l[i]
		}
		if e := area.Check(l); e != want {
			t.Fatalf("Check(%v) = %d, not %d as in another order", l, e, want)
		}
	}
	if good < 2000 || good > 18000 {
		t.Errorf("of 20000 lists of screens %d may be: they are of one kind", good)
	}
}

// TestOneAtMost: on screens that may be a place is on one at most, which At tells, and Nearest, too.
func TestOneAtMost(t *testing.T) {
	roll := dice(2)
	seen := 0
	for range 4000 {
		l := thrownScreens(roll, 4, 5)
		if area.Check(l) != api.OK {
			continue
		}
		seen++
		for _, p := range placesOf(rect(-1, -1, 17, 17)) {
			var on []int
			for i, o := range l {
				if slices.Contains(placesOf(o.Rect), p) {
					on = append(on, i)
				}
			}
			i, ok := area.At(l, p)
			if len(on) > 1 || ok != (len(on) == 1) || ok && i != on[0] || !ok && i != 0 {
				t.Fatalf("At(%v, %v) = %d, %v, on %v", l, p, i, ok, on)
			}
			if n, near := area.Nearest(l, rect(p.X, p.Y, 1, 1)); ok && (n != i || !near) {
				t.Fatalf("Nearest(%v, %v) = %d, %v, not %d", l, p, n, near, i)
			}
		}
		for i, o := range l {
			if n, ok := area.Find(l, o.Name); n != i || !ok {
				t.Fatalf("Find(%v, %s) = %d, %v", l, o.Name, n, ok)
			}
		}
	}
	if seen < 500 {
		t.Errorf("%d lists of screens may be", seen)
	}
}

// TestThrownAtAndFind holds both against the chapter's words, also of screens that may not be.
func TestThrownAtAndFind(t *testing.T) {
	roll := dice(3)
	for range 20000 {
		l := thrownScreens(roll, 12, 6)
		p, name := place(roll(14)-1, roll(14)-1), []string{"A", "B", "C", "G", "", "x y", "a"}[roll(7)]
		at, named := -1, -1
		for i, o := range slices.Backward(l) {
			if isRight(o.Rect) && slices.Contains(placesOf(o.Rect), p) {
				at = i
			}
			if o.Name == name {
				named = i
			}
		}
		i, ok := area.At(l, p)
		told(t, "At", i, ok, at)
		i, ok = area.Find(l, name)
		told(t, "Find", i, ok, named)
	}
}

// lying counts the places from 0 on that lie behind one run and ahead of another one, whichever is which.
func lying(first, length, other, otherLength int) int {
	n := 0
	for x := range 40 {
		if x >= first+length && x < other || x >= other+otherLength && x < first {
			n++
		}
	}
	return n
}

// nearestByWords is the chapter's words, place by place.
func nearestByWords(l []api.Output, r api.Rect) int {
	most, at, least, near := 0, -1, 0, -1
	for i, o := range l {
		if !isRight(o.Rect) || !isRight(r) {
			return -1
		}
		own, both := placesOf(o.Rect), 0
		for _, p := range placesOf(r) {
			if slices.Contains(own, p) {
				both++
			}
		}
		if both > most {
			most, at = both, i
		}
		x, y := lying(o.Rect.X, o.Rect.W, r.X, r.W), lying(o.Rect.Y, o.Rect.H, r.Y, r.H)
		if away := x*x + y*y; near < 0 || away < least {
			least, near = away, i
		}
	}
	if most > 0 {
		return at
	}
	return near
}

func TestThrownNearest(t *testing.T) {
	roll := dice(4)
	for range 20000 {
		side := 1 + roll(6)
		l, r := thrownScreens(roll, 9, side), thrownRect(roll, 1+roll(6))
		want := nearestByWords(l, r)
		if i, ok := area.Nearest(l, r); ok != (want >= 0) || i != max(want, 0) {
			t.Fatalf("Nearest(%v, %v) = %d, %v, not %d", l, r, i, ok, want)
		}
	}
}

// TestNearestMoved: where all are moved alike, as far as the plane goes, or the two ways change places, it is the same one.
func TestNearestMoved(t *testing.T) {
	roll := dice(5)
	for range 5000 {
		l, r := thrownScreens(roll, 9, 1+roll(6)), thrownRect(roll, 4)
		want, there := area.Nearest(l, r)
		for _, by := range []api.Point{place(low, low), place(high-20, high-20), place(low, high-20), place(-7, 5)} {
			moved := slices.Clone(l)
			for i := range moved {
				moved[i].Rect.X += by.X
				moved[i].Rect.Y += by.Y
			}
			if i, ok := area.Nearest(moved, rect(r.X+by.X, r.Y+by.Y, r.W, r.H)); i != want || ok != there {
				t.Fatalf("Nearest(%v, %v) = %d, %v, but moved by %v %d, %v", l, r, want, there, by, i, ok)
			}
		}
		turned := slices.Clone(l)
		for i, o := range l {
			turned[i].Rect = rect(o.Rect.Y, o.Rect.X, o.Rect.H, o.Rect.W)
		}
		if i, ok := area.Nearest(turned, rect(r.Y, r.X, r.H, r.W)); i != want || ok != there {
			t.Fatalf("Nearest(%v, %v) = %d, %v, but turned %d, %v", l, r, want, there, i, ok)
		}
	}
}

func thrownStruts(roll func(int) int) []api.Strut {
	var l []api.Strut
	for range roll(7) {
		l = append(l, keep([]string{"A", "A", "A", "B", ""}[roll(5)], roll(12)-4, roll(12)-4, roll(12)-4, roll(12)-4))
	}
	return l
}

// free tells whether no strut keeps a place of the screen for itself.
func free(o api.Output, l []api.Strut, p api.Point) bool {
	for _, s := range l {
		if s.Output == o.Name && (p.X < o.Rect.X+s.Left || p.Y < o.Rect.Y+s.Top || p.X >= o.Rect.X+o.Rect.W-s.Right || p.Y >= o.Rect.Y+o.Rect.H-s.Bottom) {
			return false
		}
	}
	return true
}

// TestThrownWork: what is free is each place of the screen that no strut keeps, and these alone.
func TestThrownWork(t *testing.T) {
	roll := dice(6)
	for range 10000 {
		o, l := output("A", rect(roll(30)-15, roll(30)-15, roll(20), roll(20))), thrownStruts(roll)
		var want []api.Point
		for _, p := range placesOf(o.Rect) {
			if free(o, l, p) {
				want = append(want, p)
			}
		}
		if got := area.Work(o, l); !slices.Equal(placesOf(got), want) || !geom.Right(got) {
			t.Fatalf("Work(%v, %v) = %v", o, l, got)
		}
	}
}

// TestWorkWithOneMore: what is free lies within the screen, and within what is free without the last strut; the order of them plays no part.
func TestWorkWithOneMore(t *testing.T) {
	roll := dice(7)
	for range 10000 {
		o, l := output("A", rect(roll(30)-15, roll(30)-15, roll(20), roll(20))), thrownStruts(roll)
		without := area.Work(o, nil)
		if without != o.Rect {
			t.Fatalf("Work(%v) = %v", o, without)
		}
		for n := range l {
			with := area.Work(o, l[:n+1])
			if !geom.Inside(with, without) || !geom.Inside(with, o.Rect) || geom.Area(with) > geom.Area(without) || with.W > without.W || with.H > without.H {
				t.Fatalf("Work(%v, %v) = %v, and with %v %v", o, l[:n], without, l[n], with)
			}
			if l[n].Output != o.Name && with != without {
				t.Fatalf("Work(%v, %v) = %v, and with %v, which is another one's, %v", o, l[:n], without, l[n], with)
			}
			without = with
		}
		slices.Reverse(l)
		if again := area.Work(o, l); again != without {
			t.Fatalf("Work(%v, %v) = %v, but from the other end %v", o, l, again, without)
		}
	}
}

// TestNothingIsChanged of what is handed in, its spare room included; and the same arguments have the same answer.
func TestNothingIsChanged(t *testing.T) {
	roll := dice(8)
	for range 2000 {
		outs := append(thrownScreens(roll, 9, 5), screens(rect(1, 2, 3, 4), rect(5, 6, 7, 8))...)
		struts := append(thrownStruts(roll), keep("A", 1, 2, 3, 4), keep("B", 5, 6, 7, 8))
		wholeOuts, wholeStruts := slices.Clone(outs), slices.Clone(struts)
		l, s := outs[:roll(len(outs))], struts[:roll(len(struts))]
		r, p := thrownRect(roll, 5), place(roll(10), roll(10))
		answers := func() [8]int {
			at, _ := area.At(l, p)
			near, _ := area.Nearest(l, r)
			found, _ := area.Find(l, "B")
			work := area.Work(outs[0], s)
			return [8]int{int(area.Check(l)), at, near, found, work.X, work.Y, work.W, work.H}
		}
		first := answers()
		if again := answers(); again != first {
			t.Fatalf("of %v, %v first %v, then %v", l, s, first, again)
		}
		if !slices.Equal(outs, wholeOuts) || !slices.Equal(struts, wholeStruts) {
			t.Fatalf("%v, %v became %v, %v", wholeOuts, wholeStruts, outs, struts)
		}
	}
}
