package font_test

import (
	"slices"
	"testing"

	"casement/api"
	"casement/font"
	"casement/raster"
)

// dice gives numbers that are the same each time.
func dice(seed uint32) func(n int) int {
	return func(n int) int {
		seed = seed*1664525 + 1013904223
		return int(seed>>8) % n
	}
}

func throwText(roll func(n int) int) string {
	var s []byte
	for range roll(12) {
		s = append(s, byte(roll(256)))
	}
	return string(s)
}

// throwPlace makes one from which a text may be seen on a canvas of some 60 places, wholly or in part, or not.
func throwPlace(roll func(n int) int) api.Point { return place(roll(160)-90, roll(90)-30) }

// TestWhatFits: it is not wider than it may be, and as it is, if that is wide enough.
func TestWhatFits(t *testing.T) {
	roll := dice(3)
	for range 20000 {
		s, w := throwText(roll), roll(130)-20
		got := font.Fit(s, w)
		if w >= 0 && font.Width(got) > w || w < 0 && got != "" {
			t.Fatalf("Fit(%q, %d) = %q: too wide", s, w, got)
		}
		if font.Width(s) <= w && got != s {
			t.Fatalf("Fit(%q, %d) = %q", s, w, got)
		}
		if again := font.Fit(got, w); again != got {
			t.Fatalf("Fit(%q, %d) = %q: what fits is cut", got, w, again)
		}
	}
}

// boardOf makes a canvas of many colours, clipped now and then; the same for the same numbers.
func boardOf(t *testing.T, seed uint32) *raster.Canvas {
	t.Helper()
	roll := dice(seed)
	w, h := roll(64), roll(40)
	c := canvas(t, w, h, 5)
	for range 6 {
		c.Fill(rect(roll(64), roll(40), roll(30), roll(30)), uint32(roll(1<<20)))
	}
	if roll(2) == 0 {
		c.Clip(rect(roll(40)-10, roll(30)-10, roll(60), roll(40)))
	}
	return c
}

// TestSignBySign: a text is painted as each of its signs is, one behind the other; and as what is ahead of a place in it and what is behind that.
func TestSignBySign(t *testing.T) {
	roll := dice(7)
	for n := range uint32(1500) {
		s, at, colour := throwText(roll), throwPlace(roll), uint32(roll(1<<20))
		whole, signs, halves := boardOf(t, n), boardOf(t, n), boardOf(t, n)
		font.Draw(whole, at, s, colour)
		for i := range len(s) {
			font.Draw(signs, place(at.X+8*i, at.Y), s[i:i+1], colour)
		}
		half := roll(len(s) + 1)
		font.Draw(halves, at, s[:half], colour)
		font.Draw(halves, place(at.X+font.Width(s[:half]), at.Y), s[half:], colour)
		want := whole.Image().Pix
		if !slices.Equal(signs.Image().Pix, want) || !slices.Equal(halves.Image().Pix, want) {
			t.Fatalf("%q at %v is painted otherwise than its signs, or its halves", s, at)
		}
	}
}

// inkedByWords tells whether a text has a place.
func inkedByWords(s string, at, p api.Point) bool {
	for i := range len(s) {
		x, y := p.X-at.X-8*i, p.Y-at.Y
		if 0 <= x && x < 8 && bitsByWords(int(s[i]), y)>>(7-x)&1 == 1 {
			return true
		}
	}
	return false
}

// TestThrownTexts holds canvases against the chapter's words, place by place, clips and all.
func TestThrownTexts(t *testing.T) {
	roll := dice(13)
	for n := range uint32(1500) {
		s, at, colour := throwText(roll), throwPlace(roll), uint32(roll(1<<20))
		got, open := boardOf(t, n), boardOf(t, n)
		before := got.Image()
		open.Fill(rect(low, low, all, all), 1<<31) // a colour that none has: what may be painted on
		font.Draw(got, at, s, colour)
		for i, found := range got.Image().Pix {
			p, want := place(i%before.W, i/before.W), before.Pix[i]
			if c, _ := open.At(p); c == 1<<31 && inkedByWords(s, at, p) {
				want = colour
			}
			if found != want {
				t.Fatalf("%q at %v, on board %d: %v is %x, not %x", s, at, n, p, found, want)
			}
		}
	}
}

// TestFromArgumentsAlone: what is painted before changes no answer.
func TestFromArgumentsAlone(t *testing.T) {
	roll := dice(19)
	for range 300 {
		s, at := throwText(roll), throwPlace(roll)
		first := canvas(t, 50, 30, 1)
		font.Draw(first, at, s, 2)
		want := first.Image().Pix
		font.Draw(canvas(t, 9, 9, 1), throwPlace(roll), throwText(roll), 3)
		again := canvas(t, 50, 30, 1)
		font.Draw(again, at, s, 2)
		font.Draw(again, at, s, 2) // twice is as once
		if !slices.Equal(again.Image().Pix, want) || !slices.Equal(first.Image().Pix, want) {
			t.Fatalf("%q at %v is painted otherwise than before", s, at)
		}
	}
}
