package float_test

import (
	"math"
	"testing"

	"casement/api"
	"casement/float"
	"casement/geom"
	"casement/layout"
	"casement/size"
)

// dice gives numbers that are the same each time.
func dice(seed uint32) func(n int) int {
	return func(n int) int {
		seed = seed*1664525 + 1013904223
		return int(seed>>8) % n
	}
}

// thrownRun is a start and a length: amid the plane, at its edges, of any length, or, at times, not right.
func thrownRun(roll func(int) int) (int, int) {
	length := []int{roll(40), roll(40), 1 + roll(300), roll(all + 1)}[roll(4)]
	start := []int{roll(400) - 200, roll(400) - 200, low + roll(50), high - roll(50), high + 1 - length}[roll(5)]
	if roll(60) == 0 {
		length = -roll(30)
	}
	return start, length
}

func thrownRect(roll func(int) int) api.Rect {
	x, w := thrownRun(roll)
	y, h := thrownRun(roll)
	return rect(x, y, w, h)
}

// thrownNumber is small, or about the lengths that there are, or beyond them all.
func thrownNumber(roll func(int) int) int {
	odd := []int{0, -1, math.MinInt, math.MaxInt, top, -top, all}
	return []int{roll(60) - 20, roll(400) - 200, roll(2*all) - all, odd[roll(len(odd))]}[roll(4)]
}

func thrownHints(roll func(int) int) api.Hints {
	var h api.Hints
	if roll(2) == 0 {
		h.MinW, h.MinH = roll(60), roll(60)
	}
	if roll(2) == 0 {
		h.BaseW, h.BaseH, h.IncW, h.IncH = roll(9), roll(9), roll(12), roll(12)
	}
	if roll(2) == 0 {
		h.MaxW, h.MaxH = roll(200), roll(200)
	}
	if roll(4) == 0 {
		h.LowX, h.LowY, h.HighX, h.HighY = roll(5), roll(5), roll(5), roll(5)
	}
	if roll(30) == 0 {
		h.MinW, h.MaxH, h.IncH = thrownNumber(roll), thrownNumber(roll), thrownNumber(roll)
	}
	return h
}

// onPlane is where a run of a length starts that would start at a place, but is to be on the plane.
func onPlane(start, length int) int {
	if start+length > high+1 {
		start = high + 1 - length
	}
	if start < low {
		start = low
	}
	return start
}

// middleOf has as much ahead of it as behind, or one place less.
func middleOf(start, room, length int) int {
	return start + int(math.Floor(float64(room-length)/2))
}

// keptIn is a start within work, or where work begins.
func keptIn(start, length, from, room int) int {
	switch {
	case length > room || start < from:
		start = from
	case start+length > from+room:
		start = from + room - length
	}
	return onPlane(start, length)
}

// startByWords is what the chapter's words say, of all that may be asked.
func startByWords(owner, work api.Rect, h api.Hints, w, t int) api.Rect {
	if geom.Area(work) == 0 {
		work = rect(0, 0, 1, 1)
	}
	if geom.Area(owner) == 0 {
		owner = work
	}
	if work.W < w {
		w = work.W
	}
	if work.H < t {
		t = work.H
	}
	w, t = size.Fit(h, w, t)
	x, y := onPlane(middleOf(owner.X, owner.W, w), w), onPlane(middleOf(owner.Y, owner.H, t), t)
	return rect(keptIn(x, w, work.X, work.W), keptIn(y, t, work.Y, work.H), w, t)
}

// TestThrownStart holds Start against the words; its size is good, and it lies in work where it fits in.
func TestThrownStart(t *testing.T) {
	roll := dice(1)
	within := 0
	for range 40000 {
		owner, work, h, w, tall := thrownRect(roll), thrownRect(roll), thrownHints(roll), thrownNumber(roll), thrownNumber(roll)
		if roll(4) == 0 {
			owner = api.Rect{}
		}
		got := float.Start(owner, work, h, w, tall)
		if want := startByWords(owner, work, h, w, tall); got != want {
			t.Fatalf("Start(%v, %v, %+v, %d, %d) = %v, not %v", owner, work, h, w, tall, got, want)
		}
		if !size.Good(size.Normal(h), got.W, got.H) || !geom.Right(got) {
			t.Fatalf("Start(%v, %v, %+v, %d, %d) = %v is not good", owner, work, h, w, tall, got)
		}
		if got.W <= work.W && got.H <= work.H && !geom.Empty(work) {
			within++
			if !geom.Inside(got, work) {
				t.Fatalf("Start(%v, %v, %+v, %d, %d) = %v is not in work", owner, work, h, w, tall, got)
			}
		}
	}
	if within < 10000 {
		t.Errorf("of 40000 but %d fit into work", within)
	}
}

// step goes place by place, as far as the plane goes.
func step(start, length, by int) int {
	for ; by > 0 && start+length <= high && start < high; by-- {
		start++
	}
	for ; by < 0 && start > low; by++ {
		start--
	}
	return start
}

// had is how many places two runs have in common.
func had(start, length, from, room int) int {
	return max(0, min(start+length, from+room)-max(start, from))
}

// pulled goes place by place towards work, till enough of both is in common.
func pulled(start, length, from, room int) int {
	enough := grip
	if length < enough {
		enough = length
	}
	if room < enough {
		enough = room
	}
	for had(start, length, from, room) < enough {
		if start < from {
			start++
		} else {
			start--
		}
	}
	return start
}

// moveByWords goes each way by itself.
func moveByWords(r, work api.Rect, dx, dy int) api.Rect {
	if !geom.Right(r) {
		return api.Rect{}
	}
	r.X, r.Y = step(r.X, r.W, dx), step(r.Y, r.H, dy)
	if geom.Area(r) > 0 && geom.Area(work) > 0 {
		r.X, r.Y = pulled(r.X, r.W, work.X, work.W), pulled(r.Y, r.H, work.Y, work.H)
	}
	return r
}

// TestThrownMove holds Move against steps one by one; its size stays, and enough of it lies in work.
func TestThrownMove(t *testing.T) {
	roll := dice(2)
	for range 4000 {
		r, work, dx, dy := thrownRect(roll), thrownRect(roll), thrownNumber(roll), thrownNumber(roll)
		got := float.Move(r, work, dx, dy)
		if want := moveByWords(r, work, dx, dy); got != want {
			t.Fatalf("Move(%v, %v, %d, %d) = %v, not %v", r, work, dx, dy, got, want)
		}
		if geom.Empty(r) || geom.Empty(work) {
			continue
		}
		both := geom.Inter(got, work)
		if both.W < min(grip, r.W, work.W) || both.H < min(grip, r.H, work.H) || got.W != r.W || got.H != r.H {
			t.Fatalf("Move(%v, %v, %d, %d) = %v: in work there is %v", r, work, dx, dy, got, both)
		}
		if again := float.Move(got, work, 0, 0); again != got {
			t.Fatalf("Move(%v, %v, 0, 0) = %v", got, work, again)
		}
	}
}

// TestNearMove: near work's edges, and of all small lengths, it goes as steps do.
func TestNearMove(t *testing.T) {
	for length := range 20 {
		for room := range 20 {
			for by := -45; by <= 45; by++ {
				r, work := rect(7, -3, length, 20-length), rect(5, 4, room, 20-room)
				if got, want := float.Move(r, work, by, -by), moveByWords(r, work, by, -by); got != want {
					t.Fatalf("Move(%v, %v, %d, %d) = %v, not %v", r, work, by, -by, got, want)
				}
			}
		}
	}
}

// changed is a length with what it is to have more, or less, which no more than the greatest length can be.
func changed(length, by int) int {
	switch {
	case by > top:
		by = top
	case by < -top:
		by = -top
	}
	return length + by
}

// TestThrownResize holds Resize against the words: the size is good, and its corner stays, but for the plane's edge.
func TestThrownResize(t *testing.T) {
	roll := dice(3)
	for range 40000 {
		r, h, dw, dt := thrownRect(roll), thrownHints(roll), thrownNumber(roll), thrownNumber(roll)
		var want api.Rect
		if geom.Right(r) {
			w, tall := size.Fit(h, changed(r.W, dw), changed(r.H, dt))
			want = rect(onPlane(r.X, w), onPlane(r.Y, tall), w, tall)
		}
		got := float.Resize(r, h, dw, dt)
		if got != want {
			t.Fatalf("Resize(%v, %+v, %d, %d) = %v, not %v", r, h, dw, dt, got, want)
		}
		if !geom.Right(r) {
			continue
		}
		if !size.Good(size.Normal(h), got.W, got.H) || !geom.Right(got) {
			t.Fatalf("Resize(%v, %+v, %d, %d) = %v is not good", r, h, dw, dt, got)
		}
		if again := float.Resize(got, h, 0, 0); again != got {
			t.Fatalf("Resize(%v, %+v, 0, 0) = %v", got, h, again)
		}
	}
}

// TestThrownFrame: the client is what is in its frame; where there is none, what it would be is not right.
func TestThrownFrame(t *testing.T) {
	roll := dice(4)
	framed := 0
	for range 40000 {
		r, s := thrownRect(roll), style(roll(103)-1, roll(60)-1, roll(60)-1)
		around := rect(r.X-s.Border, r.Y-s.Border-s.Title, r.W+2*s.Border, r.H+2*s.Border+s.Title)
		may := geom.Right(r) && geom.Right(around) && layout.Check(s) == api.OK
		got, ok := float.Frame(r, s)
		if ok != may || ok && got != around || !ok && got != (api.Rect{}) {
			t.Fatalf("Frame(%v, %v) = %v, %v, not %v, %v", r, s, got, ok, around, may)
		}
		if !ok {
			continue
		}
		framed++
		if inner := float.Inner(got, s); inner != r {
			t.Fatalf("Inner(%v, %v) = %v, not %v", got, s, inner, r)
		}
	}
	if framed < 5000 {
		t.Errorf("of 40000 but %d have a frame", framed)
	}
}

// TestThrownInner: it is what layout.Leaf has in a frame without a gap, with a title.
func TestThrownInner(t *testing.T) {
	roll := dice(5)
	for range 20000 {
		f, s := thrownRect(roll), style(roll(101), roll(60), roll(60))
		want := layout.Leaf(1, f, style(0, s.Border, s.Title), true).Inner
		if got := float.Inner(f, s); got != want {
			t.Fatalf("Inner(%v, %v) = %v, not %v", f, s, got, want)
		}
	}
}
