package size_test

import (
	"math"
	"slices"
	"sort"
	"testing"

	"casement/api"
	"casement/prop"
	"casement/size"
)

// dice gives numbers that are the same each time.
func dice(seed uint32) func(n int) int {
	return func(n int) int {
		seed = seed*1664525 + 1013904223
		return int(seed>>8) % n
	}
}

func from(n, least, most int) bool { return least <= n && n <= most }

// isNormal is the chapter's words.
func isNormal(h api.Hints) bool {
	one := from(h.MinW, 1, top) && from(h.MinH, 1, top) && from(h.IncW, 1, top) && from(h.IncH, 1, top)
	nought := from(h.BaseW, 0, top) && from(h.BaseH, 0, top)
	most := (h.MaxW == 0 || from(h.MaxW, h.MinW, top)) && (h.MaxH == 0 || from(h.MaxH, h.MinH, top))
	return one && nought && most && (noAspect(h) || rightAspect(h))
}

func noAspect(h api.Hints) bool { return h.LowX == 0 && h.LowY == 0 && h.HighX == 0 && h.HighY == 0 }

func rightAspect(h api.Hints) bool {
	there := from(h.LowX, 1, top) && from(h.LowY, 1, top) && from(h.HighX, 1, top) && from(h.HighY, 1, top)
	return there && h.LowX*h.HighY <= h.HighX*h.LowY
}

// lengths are all those that are good one way, gone through from the base on.
func lengths(least, most, base, inc int) []int {
	if most == 0 {
		most = top
	}
	var l []int
	for n := base; n <= most; n += inc {
		if n >= least {
			l = append(l, n)
		}
	}
	return l
}

// goodSizes are widths that are good by hints that are normal, with all heights that are good with each.
type goodSizes struct {
	widths  []int
	heights func(w int) []int
}

func sizesOf(h api.Hints) goodSizes {
	all := lengths(h.MinH, h.MaxH, h.BaseH, h.IncH)
	heights := func(w int) []int {
		if noAspect(h) {
			return all
		}
		first := sort.Search(len(all), func(i int) bool { return w*h.HighY <= h.HighX*all[i] })
		behind := sort.Search(len(all), func(i int) bool { return w*h.LowY < h.LowX*all[i] })
		return all[min(first, behind):behind]
	}
	var widths []int
	for _, w := range lengths(h.MinW, h.MaxW, h.BaseW, h.IncW) {
		if len(heights(w)) > 0 {
			widths = append(widths, w)
		}
	}
	return goodSizes{widths, heights}
}

// near tells the greatest that is at most n, or the least, one by one.
func near(l []int, n int) int {
	found := l[0]
	for _, v := range l {
		if v <= n {
			found = v
		}
	}
	return found
}

func span(v, least, most int) int {
	switch {
	case v < least:
		return least
	case v > most:
		return most
	}
	return v
}

// normalByWords makes hints normal as the chapter's words say, thing by thing.
func normalByWords(h api.Hints) (api.Hints, goodSizes) {
	n := api.Hints{MinW: span(h.MinW, 1, top), MinH: span(h.MinH, 1, top), IncW: span(h.IncW, 1, top), IncH: span(h.IncH, 1, top), BaseW: span(h.BaseW, 0, top), BaseH: span(h.BaseH, 0, top)}
	if h.MaxW > 0 {
		n.MaxW = span(h.MaxW, n.MinW, top)
	}
	if h.MaxH > 0 {
		n.MaxH = span(h.MaxH, n.MinH, top)
	}
	if rightAspect(h) {
		n.LowX, n.LowY, n.HighX, n.HighY = h.LowX, h.LowY, h.HighX, h.HighY
	}
	l := sizesOf(n)
	if len(l.widths) == 0 || len(l.heights(l.widths[0])) == 0 {
		n.LowX, n.LowY, n.HighX, n.HighY = 0, 0, 0, 0
		l = sizesOf(n)
	}
	if len(l.widths) == 0 {
		n.IncW, n.IncH, n.BaseW, n.BaseH = 1, 1, 0, 0
		l = sizesOf(n)
	}
	return n, l
}

// checkNormal holds Normal against the words, and tells what it makes, and the sizes that are good by it.
func checkNormal(t *testing.T, h api.Hints) (api.Hints, goodSizes) {
	t.Helper()
	n := size.Normal(h)
	want, l := normalByWords(h)
	if n != want {
		t.Fatalf("Normal(%+v) = %+v, not %+v", h, n, want)
	}
	if !isNormal(n) || size.Normal(n) != n {
		t.Fatalf("Normal(%+v) = %+v is not normal, or not its own", h, n)
	}
	return n, l
}

// checkFit holds Fit against the words, and what follows from them.
func checkFit(t *testing.T, h, n api.Hints, l goodSizes, w, tall int) {
	t.Helper()
	toW, toT := size.Fit(h, w, tall)
	wantW := near(l.widths, span(w, 0, top))
	wantT := near(l.heights(wantW), span(tall, 0, top))
	if toW != wantW || toT != wantT {
		t.Fatalf("Fit(%+v, %d, %d) = %d %d, not %d %d", h, w, tall, toW, toT, wantW, wantT)
	}
	if !size.Good(n, toW, toT) {
		t.Fatalf("Fit(%+v, %d, %d) = %d %d is not good by %+v", h, w, tall, toW, toT, n)
	}
}

// checkGood holds Good against the words: by hints as they are, and by the normal ones; what is good is what Fit tells of it.
func checkGood(t *testing.T, h, n api.Hints, l goodSizes, w, tall int) {
	t.Helper()
	_, wide := slices.BinarySearch(l.widths, w)
	good := wide && slices.Contains(l.heights(w), tall)
	if size.Good(n, w, tall) != good {
		t.Fatalf("Good(%+v, %d, %d) = %v", n, w, tall, !good)
	}
	if size.Good(h, w, tall) != (good && h == n) {
		t.Fatalf("Good(%+v, %d, %d) = %v", h, w, tall, size.Good(h, w, tall))
	}
	toW, toT := size.Fit(h, w, tall)
	if good && (toW != w || toT != tall) {
		t.Fatalf("Fit(%+v, %d, %d) = %d %d, though it is good", h, w, tall, toW, toT)
	}
}

// thrown hints have numbers below most, and some that no normal ones have; of each four of them, one has an aspect.
func thrown(roll func(int) int, most int) api.Hints {
	odd := []int{0, -1, -3, math.MinInt, math.MaxInt, top, top + 1}
	one := func() int {
		if roll(30) == 0 {
			return odd[roll(len(odd))]
		}
		return roll(most)
	}
	var h api.Hints
	for at, f := range fields(&h) {
		if at < 8 {
			*f = one()
		}
	}
	h.MaxW, h.MaxH = h.MaxW+roll(most), h.MaxH+roll(most)
	if roll(2) == 0 {
		return h
	}
	h.LowX, h.LowY, h.HighX, h.HighY = one(), one(), one(), one()
	if roll(2) == 0 {
		h.HighX, h.HighY = h.LowX, h.LowY
	}
	return h
}

// TestSmall holds small hints against all small sizes.
func TestSmall(t *testing.T) {
	roll := dice(1)
	for range 3000 {
		h := thrown(roll, 9)
		h.MaxW, h.MaxH = span(h.MaxW, 1, 20), span(h.MaxH, 1, 20)
		n, l := checkNormal(t, h)
		for w := -1; w < 22; w++ {
			for tall := -1; tall < 22; tall++ {
				checkGood(t, h, n, l, w, tall)
			}
			checkFit(t, h, n, l, w, roll(22))
		}
	}
}

// TestThrown holds hints of any greatness against sizes of any greatness.
func TestThrown(t *testing.T) {
	roll := dice(2)
	for range 200 {
		for _, most := range []int{3, 30, 1000, top, top + 100} {
			h := thrown(roll, most)
			n, l := checkNormal(t, h)
			for range 4 {
				w, tall := roll(2*most), roll(2*most)
				checkFit(t, h, n, l, w, tall)
				checkGood(t, h, n, l, w, tall)
				w = l.widths[roll(len(l.widths))]
				heights := l.heights(w)
				checkGood(t, h, n, l, w, heights[roll(len(heights))])
				checkGood(t, h, n, l, w+roll(3)-1, heights[roll(len(heights))]+roll(3)-1)
			}
			for _, w := range []int{math.MinInt, -1, 0, 1, top - 1, top, top + 1, math.MaxInt} {
				checkFit(t, h, n, l, w, roll(most))
				checkFit(t, h, n, l, roll(most), w)
				checkFit(t, h, n, l, w, w)
			}
		}
	}
}

// TestNarrowAspects: quotients of great numbers, of which few sizes, or one, or none are good, and which a float64 may not tell apart.
func TestNarrowAspects(t *testing.T) {
	roll := dice(3)
	for range 120 {
		x, y := top-roll(300), top-roll(300)
		h := but(plain, aspect(x, y, x+roll(2)*min(top-x, 1), y))
		h.IncW, h.IncH, h.BaseW = 1+roll(3), 1+roll(3), roll(4)
		if roll(2) == 0 {
			h.MinW, h.MinH = roll(top), roll(top)
		}
		n, l := checkNormal(t, h)
		for _, w := range []int{0, x - 1, x, x + 1, roll(top), top} {
			checkFit(t, h, n, l, w, roll(top))
			checkGood(t, h, n, l, w, y)
			checkGood(t, h, n, l, w, w)
		}
	}
}

// TestEdgeLengths: each of the lengths is at each of its edges, with each other one at one of its.
func TestEdgeLengths(t *testing.T) {
	edges := []int{0, 1, 2, top - 1, top}
	for _, least := range edges {
		for _, most := range edges {
			for _, base := range edges {
				for _, inc := range edges {
					one := api.Hints{MinW: least, MaxW: most, BaseW: base, IncW: inc, MinH: 3, MaxH: 9, IncH: 4}
					other := api.Hints{MinH: least, MaxH: most, BaseH: base, IncH: inc, MinW: 3, MaxW: 9, IncW: 4}
					for _, h := range []api.Hints{one, other} {
						n, l := checkNormal(t, h)
						for _, x := range edges {
							checkFit(t, h, n, l, x, x)
							checkFit(t, h, n, l, x, 5)
							checkGood(t, h, n, l, x, 4)
							checkGood(t, h, n, l, 4, x)
						}
					}
				}
			}
		}
	}
}

// TestDecodeOfThrown holds Decode against the chapter's words, bit by bit.
func TestDecodeOfThrown(t *testing.T) {
	roll := dice(4)
	for first := range 512 {
		for range 8 {
			l := make([]int, 15+roll(6))
			for i := range l {
				l[i] = roll(9) - 3
			}
			l[0] = first + 512*(roll(9)-4)
			want := plain
			set := func(bit, at int, to ...*int) {
				for i, f := range to {
					if len(l) >= 17 && first/bit%2 == 1 {
						*f = l[at+i]
					}
				}
			}
			set(256, 15, &want.MinW, &want.MinH)
			set(16, 5, &want.MinW, &want.MinH)
			set(16, 5, &want.BaseW, &want.BaseH)
			set(256, 15, &want.BaseW, &want.BaseH)
			set(32, 7, &want.MaxW, &want.MaxH)
			set(64, 9, &want.IncW, &want.IncH)
			set(128, 11, &want.LowX, &want.LowY, &want.HighX, &want.HighY)
			if got := size.Decode(prop.Data(l...)); got != want {
				t.Fatalf("Decode of %v = %+v, not %+v", l, got, want)
			}
		}
	}
}
