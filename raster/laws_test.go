package raster_test

import (
	"testing"

	"casement/api"
	"casement/raster"
)

// part tells one of a colour's four, by how far up it lies.
func part(colour uint32, shift int) int { return int(colour >> shift & 255) }

func between(v, a, b int) bool { return min(a, b) <= v && v <= max(a, b) }

// TestBlendEachPart goes through all parts, under and over, with all that covers: three of them in one colour.
func TestBlendEachPart(t *testing.T) {
	for a := range 256 {
		for u := range 256 {
			for o := range 256 {
				under := uint32(u<<24 | u<<16 | (255-u)<<8 | o)
				over := uint32(a<<24 | o<<16 | u<<8 | (255 - o))
				got := raster.Blend(under, over)
				for _, p := range [4][3]int{{24, u, 255}, {16, u, o}, {8, 255 - u, u}, {0, o, 255 - o}} {
					want := (p[2]*a + p[1]*(255-a) + 127) / 255
					if part(got, p[0]) != want || !between(want, p[1], p[2]) {
						t.Fatalf("Blend(%08x, %08x) = %08x: of %d and %d, %d, there is %d, not %d", under, over, got, p[1], p[2], a, part(got, p[0]), want)
					}
				}
			}
		}
	}
}

// TestCoversAllOrNothing: what covers all is over by itself; what covers nothing leaves all as it was; a colour over itself, if it covers all that is under it, stays.
func TestCoversAllOrNothing(t *testing.T) {
	roll := dice(5)
	for range 20000 {
		under, over := throwColour(roll), throwColour(roll)
		if got := raster.Blend(under, over|0xff000000); got != over|0xff000000 {
			t.Fatalf("Blend(%08x, %08x) = %08x", under, over|0xff000000, got)
		}
		if got := raster.Blend(under, over&0x00ffffff); got != under {
			t.Fatalf("Blend(%08x, %08x) = %08x", under, over&0x00ffffff, got)
		}
		itself := over&0x00ffffff | under&0xff000000
		if got := raster.Blend(over|0xff000000, itself); got != over|0xff000000 {
			t.Fatalf("Blend(%08x, %08x) = %08x", over|0xff000000, itself, got)
		}
	}
}

// dice gives numbers that are the same each time.
func dice(seed uint32) func(n int) int {
	return func(n int) int {
		seed = seed*1664525 + 1013904223
		return int(seed>>8) % n
	}
}

func throwColour(roll func(n int) int) uint32 { return uint32(roll(1<<16)<<16 | roll(1<<16)) }

// throwRect makes one about a canvas of some 9 places: some reach over its edges, some have no place, some are not right.
func throwRect(roll func(n int) int) api.Rect {
	r := rect(roll(16)-4, roll(16)-4, roll(12), roll(12))
	switch roll(12) {
	case 0:
		r.W = -r.W
	case 1:
		r.H = high + 1
	case 2:
		r = rect(low, low, all, all)
	}
	return r
}

func throwPicture(roll func(n int) int) api.Image {
	m := api.Image{W: roll(8), H: roll(8)}
	for range m.W*m.H + max(roll(12)-10, 0) { // now and then one too many
		m.Pix = append(m.Pix, throwColour(roll))
	}
	return m
}

// byWords is a canvas as the chapter's words say, place by place.
type byWords struct {
	w, h int
	clip api.Rect
	at   map[api.Point]uint32
}

func wordsOf(w, h int, colour uint32) *byWords {
	c := &byWords{w, h, rect(0, 0, w, h), map[api.Point]uint32{}}
	for y := range h {
		for x := range w {
			c.at[place(x, y)] = colour
		}
	}
	return c
}

func onPlane(v int) bool { return low <= v && v <= high }

// right: the first place is on the plane, and so is each other one.
func right(r api.Rect) bool {
	return onPlane(r.X) && onPlane(r.Y) && r.W >= 0 && r.H >= 0 && (r.W == 0 || onPlane(r.X+r.W-1)) && (r.H == 0 || onPlane(r.Y+r.H-1))
}

func holds(r api.Rect, p api.Point) bool {
	return right(r) && r.X <= p.X && p.X < r.X+r.W && r.Y <= p.Y && p.Y < r.Y+r.H
}

func (c *byWords) each(r api.Rect, do func(p api.Point)) {
	for p := range c.at {
		if holds(r, p) && holds(c.clip, p) {
			do(p)
		}
	}
}

func (c *byWords) fill(r api.Rect, colour uint32) { c.each(r, func(p api.Point) { c.at[p] = colour }) }

func (c *byWords) over(r api.Rect, colour uint32) {
	c.each(r, func(p api.Point) { c.at[p] = raster.Blend(c.at[p], colour) })
}

func (c *byWords) blit(m api.Image, at api.Point) {
	if len(m.Pix) == m.W*m.H {
		c.each(rect(at.X, at.Y, m.W, m.H), func(p api.Point) { c.at[p] = m.Pix[(p.Y-at.Y)*m.W+p.X-at.X] })
	}
}

// frame: a place is one of the frame's, if it is fewer than width places away from a side.
func (c *byWords) frame(r api.Rect, width int, colour uint32) {
	c.each(r, func(p api.Point) {
		if min(p.X-r.X, r.X+r.W-1-p.X, p.Y-r.Y, r.Y+r.H-1-p.Y) < width {
			c.at[p] = colour
		}
	})
}

func (c *byWords) image() api.Image {
	m := api.Image{W: c.w, H: c.h}
	for y := range c.h {
		for x := range c.w {
			m.Pix = append(m.Pix, c.at[place(x, y)])
		}
	}
	return m
}

// pair is a canvas, and what it should be.
type pair struct {
	got  *raster.Canvas
	want *byWords
}

// step does one thing to both, and tells what was done.
func (c pair) step(roll func(n int) int) string {
	r, colour := throwRect(roll), throwColour(roll)
	switch roll(6) {
	case 0:
		c.got.Clip(r)
		c.want.clip = r
		return "Clip"
	case 1:
		c.got.Fill(r, colour)
		c.want.fill(r, colour)
		return "Fill"
	case 2:
		c.got.Over(r, colour)
		c.want.over(r, colour)
		return "Over"
	case 3:
		m := throwPicture(roll)
		c.got.Blit(m, place(r.X, r.Y))
		c.want.blit(m, place(r.X, r.Y))
		return "Blit"
	case 4:
		width := roll(7) - 1
		c.got.Frame(r, width, colour)
		c.want.frame(r, width, colour)
		return "Frame"
	}
	c.got.Clip(rect(low, low, all, all))
	c.want.clip = rect(low, low, all, all)
	return "Clip of all"
}

// TestThrownSteps holds canvases against the chapter's words, behind each of many steps.
func TestThrownSteps(t *testing.T) {
	roll := dice(11)
	for range 300 {
		w, h, colour := roll(10), roll(10), throwColour(roll)
		c := pair{canvas(t, w, h, colour), wordsOf(w, h, colour)}
		for n := range 40 {
			name := c.step(roll)
			if got := c.got.Image(); !same(got, c.want.image()) {
				t.Fatalf("%d, %d, behind step %d, %s: %x, not %x", w, h, n, name, got, c.want.image())
			}
			x, y := roll(12)-1, roll(12)-1
			want, in := c.want.at[place(x, y)]
			if got, ok := c.got.At(place(x, y)); got != want || ok != in {
				t.Fatalf("%d, %d: At(%d, %d) = %x, %v, not %x", w, h, x, y, got, ok, want)
			}
		}
	}
}

// TestOutsideStays: what lies outside of what may be painted on stays, whatever is painted.
func TestOutsideStays(t *testing.T) {
	roll := dice(17)
	for range 2000 {
		c := pair{canvas(t, 9, 9, 0), wordsOf(9, 9, 0)}
		c.got.Blit(drawn("abcdefghi", "bcdefghij", "cdefghijk", "defghijkl", "efghijklm", "fghijklmn", "ghijklmno", "hijklmnop", "ijklmnopq"), place(0, 0))
		clip := throwRect(roll)
		c.got.Clip(clip)
		before := c.got.Image()
		for range 4 {
			r, colour := throwRect(roll), throwColour(roll)
			c.got.Fill(r, colour)
			c.got.Over(throwRect(roll), colour)
			c.got.Frame(throwRect(roll), roll(4), colour)
			c.got.Blit(throwPicture(roll), place(r.X, r.Y))
		}
		after := c.got.Image()
		for i := range after.Pix {
			if p := place(i%9, i/9); !holds(clip, p) && after.Pix[i] != before.Pix[i] {
				t.Fatalf("outside of %v, at %v: %x, not %x", clip, p, after.Pix[i], before.Pix[i])
			}
		}
	}
}

// TestSmallFrames goes through all rectangles about a canvas, and all widths that differ.
func TestSmallFrames(t *testing.T) {
	for i := range 7 * 7 * 7 * 7 {
		r := rect(i%7-2, i/7%7-2, i/49%7, i/343)
		for width := -1; width < 6; width++ {
			c := pair{canvas(t, 4, 4, '.'), wordsOf(4, 4, '.')}
			c.got.Frame(r, width, '#')
			c.want.frame(r, width, '#')
			if got := c.got.Image(); !same(got, c.want.image()) {
				t.Fatalf("Frame(%v, %d): %q, not %q", r, width, rowsOf(got), rowsOf(c.want.image()))
			}
		}
	}
}
