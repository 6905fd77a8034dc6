package raster_test

import (
	"math"
	"slices"
	"testing"

	"casement/api"
	"casement/raster"
)

const (
	low  = api.Low
	high = api.High
	all  = high + 1 - low // how many places the plane has, one way
	most = api.MaxSide
)

// marked stands in spare room: a call that writes there is found out.
const marked = 0x77777777

func rect(x, y, w, h int) api.Rect { return api.Rect{X: x, Y: y, W: w, H: h} }

func place(x, y int) api.Point { return api.Point{X: x, Y: y} }

func picture(w, h int, pix ...uint32) api.Image { return api.Image{W: w, H: h, Pix: pix} }

// plain makes a picture of one colour.
func plain(w, h int, colour uint32) api.Image {
	return picture(w, h, slices.Repeat([]uint32{colour}, w*h)...)
}

func canvas(t *testing.T, w, h int, colour uint32) *raster.Canvas {
	t.Helper()
	c, e := raster.New(w, h, colour)
	if e != api.OK || c == nil {
		t.Fatalf("New(%d, %d): %v, %d", w, h, c, e)
	}
	return c
}

// drawn makes a picture of rows of signs: each is its place's colour.
func drawn(rows ...string) api.Image {
	m := api.Image{H: len(rows)}
	for _, row := range rows {
		m.W = len(row)
		for _, sign := range []byte(row) {
			m.Pix = append(m.Pix, uint32(sign))
		}
	}
	return m
}

// rowsOf tells a picture whose colours are signs.
func rowsOf(m api.Image) []string {
	var rows []string
	for y := range m.H {
		var row []byte
		for _, colour := range m.Pix[y*m.W : (y+1)*m.W] {
			row = append(row, byte(colour))
		}
		rows = append(rows, string(row))
	}
	return rows
}

func same(a, b api.Image) bool { return a.W == b.W && a.H == b.H && slices.Equal(a.Pix, b.Pix) }

// looks tells whether a canvas is those rows of signs.
func looks(t *testing.T, name string, c *raster.Canvas, rows ...string) {
	t.Helper()
	if got := c.Image(); !same(got, drawn(rows...)) {
		t.Errorf("%s: %dx%d %q, not %q", name, got.W, got.H, rowsOf(got), rows)
	}
}

// notRight rectangles would hold places of a canvas, if they were.
func notRight() []api.Rect {
	return []api.Rect{
		rect(0, 0, high+2, 4), rect(0, 0, 5, high+2), rect(low-1, 0, all, 4), rect(0, low-1, 5, all), rect(low, 0, all+1, 4), rect(0, low, 5, all+1),
		rect(low-1, low-1, all+2, all+2), rect(0, 0, math.MaxInt, 4), rect(0, 0, 5, math.MaxInt), rect(0, 0, math.MaxInt, math.MaxInt), rect(math.MinInt, 0, math.MaxInt, 4),
		rect(4, 0, -4, 4), rect(0, 3, 5, -3), rect(5, 4, -5, -4), rect(0, 0, -1, 4), rect(0, 0, 5, -1), rect(0, 0, math.MinInt, math.MinInt), rect(math.MinInt, math.MinInt, math.MinInt, math.MinInt),
		rect(math.MaxInt, 0, 1, 4), rect(math.MaxInt, math.MaxInt, math.MaxInt, math.MaxInt), rect(high+1, 0, 0, 4), rect(math.MinInt, 0, math.MinInt, 4),
	}
}

// beside the places of a canvas of 5 and 4, or without any.
func beside() []api.Rect {
	return []api.Rect{
		{}, rect(1, 1, 0, 2), rect(1, 1, 2, 0), rect(2, 2, 0, 0), rect(low, 0, all, 0), rect(0, low, 0, all),
		rect(5, 0, 1, 4), rect(0, 4, 5, 1), rect(-1, 0, 1, 4), rect(0, -1, 5, 1), rect(5, 4, 9, 9), rect(-9, -9, 9, 9), rect(5, -9, 9, 9), rect(-9, 4, 9, 9), rect(low, low, 9, 9), rect(high, high, 1, 1), rect(low, 1, -low, 1),
	}
}

func TestRight(t *testing.T) {
	for _, c := range []struct {
		m    api.Image
		want bool
	}{
		{api.Image{}, true}, {picture(0, 0), true}, {api.Image{Pix: make([]uint32, 0, 9)}, true}, {picture(1, 1, 7), true}, {picture(2, 3, 1, 2, 3, 4, 5, 6), true}, {picture(3, 2, 1, 2, 3, 4, 5, 6), true},
		{picture(0, 1), true}, {picture(1, 0), true}, {picture(0, most), true}, {picture(most, 0), true},
		{plain(most, 1, 5), true}, {plain(1, most, 5), true}, {plain(most, most, 5), true},
		{plain(most+1, 1, 5), false}, {plain(1, most+1, 5), false}, {picture(most+1, 0), false}, {picture(0, most+1), false}, {plain(2*most, most/2, 5), false}, {plain(most/2, 2*most, 5), false},
		{picture(0, 0, 1), false}, {picture(0, 1, 1), false}, {picture(1, 0, 1), false}, {picture(1, 1), false}, {picture(1, 1, 1, 2), false},
		{picture(2, 2), false}, {picture(2, 2, 1, 2, 3), false}, {picture(2, 2, 1, 2, 3, 4, 5), false}, {picture(2, 2, 1, 2), false},
		{picture(-1, 0), false}, {picture(0, -1), false}, {picture(-1, -1, 1), false}, {picture(-2, -3, 1, 2, 3, 4, 5, 6), false}, {picture(-1, 1, 1), false}, {picture(1, -1, 1), false},
		{picture(1<<32, 1<<32), false}, {picture(math.MinInt, 2), false}, {picture(math.MinInt, math.MinInt), false}, {picture(math.MaxInt, math.MaxInt, 1), false}, {picture(math.MinInt, 0), false}, {picture(0, math.MaxInt), false}, // products that go round to what there is
	} {
		if got := raster.Right(c.m); got != c.want {
			t.Errorf("Right of %d, %d and %d colours = %v", c.m.W, c.m.H, len(c.m.Pix), got)
		}
	}
	short, long := plain(most, most, 5), plain(most, most, 5)
	short.Pix, long.Pix = short.Pix[1:], append(long.Pix, 5)
	if raster.Right(short) || raster.Right(long) {
		t.Error("the greatest picture has as many colours as places, or may not be")
	}
}

func TestBlend(t *testing.T) {
	for _, c := range []struct{ under, over, want uint32 }{
		{0xff000000, 0x80ffffff, 0xff808080}, {0, 0x80ff0000, 0x80800000},
		{0x12345678, 0, 0x12345678}, {0x12345678, 0x00ffffff, 0x12345678}, {0, 0x00ffffff, 0}, {0xffffffff, 0, 0xffffffff}, {0, 0, 0}, // nothing is covered
		{0x12345678, 0xff000000, 0xff000000}, {0x12345678, 0xffabcdef, 0xffabcdef}, {0, 0xff010203, 0xff010203}, {0xffffffff, 0xff010203, 0xff010203}, // all is
		{0xff000000, 0x01ffffff, 0xff010101}, {0xffffffff, 0xfe000000, 0xff010101}, {0xffffffff, 0x01000000, 0xfffefefe}, {0xff000000, 0xfeffffff, 0xfffefefe}, // least and most in part
		{0xff102030, 0x80a0b0c0, 0xff586878}, {0xff0000ff, 0x40ff0000, 0xff4000bf}, // each part by itself
		{0x80000000, 0x80000000, 0xc0000000}, {0x80ffffff, 0x80ffffff, 0xc0ffffff}, {0x40000000, 0xc0000000, 0xd0000000}, // what covers in part covers more, one over the other
		{0, 0x7f010101, 0x7f000000}, {0, 0x80010101, 0x80010101}, {0x01010101, 0x7f000000, 0x80010101}, {0x01010101, 0x80000000, 0x80000000}, // the last one that is rounded down, and the first one up
		{0xff112233, 0x55112233, 0xff112233}, {0x00ffffff, 0x80000000, 0x807f7f7f}, {0x00808080, 0x33ff00ff, 0x33996699},
	} {
		if got := raster.Blend(c.under, c.over); got != c.want {
			t.Errorf("Blend(%08x, %08x) = %08x, not %08x", c.under, c.over, got, c.want)
		}
	}
}

func TestNew(t *testing.T) {
	for _, side := range []int{-1, -2, most + 1, most + 2, most * most, -most, math.MinInt, math.MinInt32, math.MaxInt32, math.MaxInt, 1 << 32} {
		for _, other := range []int{0, 1, 5, most, side} {
			for _, s := range [][2]int{{side, other}, {other, side}} {
				if c, e := raster.New(s[0], s[1], 9); c != nil || e != api.ErrArg {
					t.Errorf("New(%d, %d) = %v, %d", s[0], s[1], c, e)
				}
			}
		}
	}
	for _, s := range [][2]int{{0, 0}, {0, 1}, {1, 0}, {0, most}, {most, 0}, {1, 1}, {5, 4}, {4, 5}, {most, 1}, {1, most}, {most, 2}, {most, most}} {
		for _, colour := range []uint32{0, 1, 0x80ff00ff, math.MaxUint32} {
			c := canvas(t, s[0], s[1], colour)
			if got := c.Image(); !same(got, plain(s[0], s[1], colour)) {
				t.Errorf("New(%d, %d, %x): %d, %d and %d colours", s[0], s[1], colour, got.W, got.H, len(got.Pix))
			}
			c.Fill(rect(low, low, all, all), colour+1)
			if got := c.Image(); !same(got, plain(s[0], s[1], colour+1)) {
				t.Errorf("New(%d, %d, %x): not all may be painted on", s[0], s[1], colour)
			}
		}
	}
}

func TestAt(t *testing.T) {
	c := canvas(t, 5, 4, '.')
	c.Blit(drawn("abcde", "fghij", "klmno", "pqrst"), place(0, 0))
	for y := range 4 {
		for x := range 5 {
			if got, ok := c.At(place(x, y)); got != uint32('a'+5*y+x) || !ok {
				t.Errorf("At(%d, %d) = %d, %v", x, y, got, ok)
			}
		}
	}
	c.Clip(rect(1, 1, 1, 1)) // what may not be painted on may be looked at
	if got, ok := c.At(place(4, 3)); got != 't' || !ok {
		t.Errorf("At outside of what may be painted on = %d, %v", got, ok)
	}
	for _, far := range []int{-1, 5, -5, 1024, low, high, low - 1, high + 1, math.MinInt, math.MaxInt} {
		for _, p := range []api.Point{place(far, 0), place(far, 3), place(0, far), place(4, far), place(far, far)} {
			if got, ok := c.At(p); got != 0 || ok {
				t.Errorf("At(%v) = %d, %v", p, got, ok)
			}
		}
	}
	if got, ok := c.At(place(0, 4)); got != 0 || ok {
		t.Errorf("At below the last row = %d, %v", got, ok)
	}
	for _, s := range [][2]int{{0, 0}, {0, 5}, {5, 0}} {
		if got, ok := canvas(t, s[0], s[1], 7).At(place(0, 0)); got != 0 || ok {
			t.Errorf("At of %v = %d, %v", s, got, ok)
		}
	}
	if got, ok := canvas(t, 1, 1, 7).At(place(0, 0)); got != 7 || !ok {
		t.Errorf("At of one place = %d, %v", got, ok)
	}
	if got, ok := canvas(t, most, most, 0).At(place(most-1, most-1)); got != 0 || !ok {
		t.Errorf("At of the last place = %d, %v", got, ok)
	}
}

// TestClip fills all, so that what is filled is what may be painted on.
func TestClip(t *testing.T) {
	whole := rect(low, low, all, all)
	for _, c := range []struct {
		clips []api.Rect
		want  []string
	}{
		{nil, []string{"#####", "#####", "#####", "#####"}},
		{[]api.Rect{rect(0, 0, 5, 4)}, []string{"#####", "#####", "#####", "#####"}},
		{[]api.Rect{rect(1, 1, 2, 2)}, []string{".....", ".##..", ".##..", "....."}},
		{[]api.Rect{rect(0, 0, 1, 1)}, []string{"#....", ".....", ".....", "....."}},
		{[]api.Rect{rect(4, 3, 1, 1)}, []string{".....", ".....", ".....", "....#"}},
		{[]api.Rect{rect(3, 2, 9, 9)}, []string{".....", ".....", "...##", "...##"}},
		{[]api.Rect{rect(-7, -8, 9, 9)}, []string{"##...", ".....", ".....", "....."}},
		{[]api.Rect{rect(2, -9, 1, 99)}, []string{"..#..", "..#..", "..#..", "..#.."}},
		{[]api.Rect{rect(-9, 2, 99, 1)}, []string{".....", ".....", "#####", "....."}},
		{[]api.Rect{rect(1, 1, 1, 1), rect(0, 1, 3, 2)}, []string{".....", "###..", "###..", "....."}}, // set again, wider
		{[]api.Rect{rect(1, 1, 1, 1), rect(3, 3, 1, 1)}, []string{".....", ".....", ".....", "...#."}},
		{[]api.Rect{rect(1, 1, 1, 1), whole}, []string{"#####", "#####", "#####", "#####"}},
		{[]api.Rect{{}, rect(0, 0, 9, 1)}, []string{"#####", ".....", ".....", "....."}},
		{[]api.Rect{rect(0, 0, high+2, 4), rect(0, 3, 9, 1)}, []string{".....", ".....", ".....", "#####"}},
	} {
		m := canvas(t, 5, 4, '.')
		for _, r := range c.clips {
			m.Clip(r)
		}
		m.Fill(whole, '#')
		looks(t, "behind clips", m, c.want...)
	}
	for _, r := range append(beside(), notRight()...) {
		m := canvas(t, 5, 4, '.')
		m.Clip(r)
		m.Fill(whole, '#')
		m.Over(whole, 0xff000000)
		m.Blit(drawn("abcde", "fghij", "klmno", "pqrst"), place(0, 0))
		m.Frame(rect(0, 0, 5, 4), 9, '#')
		looks(t, "behind a clip without places", m, ".....", ".....", ".....", ".....")
	}
}

func TestFill(t *testing.T) {
	for _, c := range []struct {
		r    api.Rect
		want []string
	}{
		{rect(0, 0, 5, 4), []string{"#####", "#####", "#####", "#####"}},
		{rect(low, low, all, all), []string{"#####", "#####", "#####", "#####"}},
		{rect(0, 0, 1, 1), []string{"#....", ".....", ".....", "....."}},
		{rect(4, 3, 1, 1), []string{".....", ".....", ".....", "....#"}},
		{rect(1, 2, 3, 1), []string{".....", ".....", ".###.", "....."}},
		{rect(2, 1, 1, 3), []string{".....", "..#..", "..#..", "..#.."}},
		{rect(-3, 1, 5, 2), []string{".....", "##...", "##...", "....."}}, // over an edge
		{rect(3, 1, 9, 2), []string{".....", "...##", "...##", "....."}},
		{rect(1, -3, 2, 4), []string{".##..", ".....", ".....", "....."}},
		{rect(1, 3, 2, 4), []string{".....", ".....", ".....", ".##.."}},
		{rect(-1, -1, 2, 2), []string{"#....", ".....", ".....", "....."}}, // over a corner
		{rect(4, 3, high-3, high-2), []string{".....", ".....", ".....", "....#"}},
		{rect(0, 0, high+1, 1), []string{"#####", ".....", ".....", "....."}}, // as wide as one from there may be
	} {
		m := canvas(t, 5, 4, '.')
		m.Fill(c.r, '#')
		looks(t, "Fill", m, c.want...)
	}
	for _, r := range append(beside(), notRight()...) {
		m := canvas(t, 5, 4, '.')
		m.Fill(r, '#')
		looks(t, "Fill of nothing", m, ".....", ".....", ".....", ".....")
	}
	m := canvas(t, 5, 4, '.')
	m.Fill(rect(0, 0, 3, 3), 'a')
	m.Fill(rect(1, 1, 3, 3), 'b') // what comes later is seen
	m.Clip(rect(2, 0, 2, 4))
	m.Fill(rect(0, 2, 5, 1), 'c')
	looks(t, "Fill, one behind the other", m, "aaa..", "abbb.", "abcc.", ".bbb.")
	m.Fill(rect(0, 0, 9, 9), 0) // a colour that covers nothing is one
	if got, ok := m.At(place(3, 3)); got != 0 || !ok {
		t.Errorf("filled with what covers nothing: %x, %v", got, ok)
	}
}

func TestOver(t *testing.T) {
	black, half, grey := uint32(0xff000000), uint32(0x80ffffff), uint32(0xff808080)
	c := canvas(t, 3, 3, black)
	c.Over(rect(1, 1, 9, 1), half)
	want := plain(3, 3, black)
	want.Pix[4], want.Pix[5] = grey, grey
	if got := c.Image(); !same(got, want) {
		t.Errorf("Over: %x", got.Pix)
	}
	c.Clip(rect(0, 0, 2, 9))
	c.Over(rect(1, 1, 2, 2), half) // what is there is under it, not what was
	want.Pix[4], want.Pix[7] = 0xffc0c0c0, grey
	if got := c.Image(); !same(got, want) {
		t.Errorf("Over again, clipped: %x", got.Pix)
	}
	c.Over(rect(0, 0, 1, 1), 0x00ffffff)
	if got := c.Image(); !same(got, want) {
		t.Errorf("Over with what covers nothing: %x", got.Pix)
	}
	c.Over(rect(0, 0, 1, 1), 0xff123456)
	want.Pix[0] = 0xff123456
	if got := c.Image(); !same(got, want) {
		t.Errorf("Over with what covers all: %x", got.Pix)
	}
	for _, r := range append(beside(), notRight()...) {
		m := canvas(t, 5, 4, black)
		m.Over(r, half)
		if got := m.Image(); !same(got, plain(5, 4, black)) {
			t.Errorf("Over of %v: %x", r, got.Pix)
		}
	}
	m := canvas(t, 2, 1, 0x80000000)
	m.Over(rect(low, low, all, all), 0x80ff0000)
	if got := m.Image(); !same(got, plain(2, 1, 0xc0800000)) {
		t.Errorf("Over of all: %x", got.Pix)
	}
}

func TestBlit(t *testing.T) {
	letters := drawn("abc", "def")
	blank := []string{".....", ".....", ".....", "....."}
	for _, c := range []struct {
		m    api.Image
		at   api.Point
		want []string
	}{
		{letters, place(0, 0), []string{"abc..", "def..", ".....", "....."}},
		{letters, place(1, 1), []string{".....", ".abc.", ".def.", "....."}},
		{letters, place(2, 2), []string{".....", ".....", "..abc", "..def"}},
		{letters, place(3, 3), []string{".....", ".....", ".....", "...ab"}}, // partly outside
		{letters, place(4, 1), []string{".....", "....a", "....d", "....."}},
		{letters, place(1, 3), []string{".....", ".....", ".....", ".abc."}},
		{letters, place(-1, 1), []string{".....", "bc...", "ef...", "....."}},
		{letters, place(-2, -1), []string{"f....", ".....", ".....", "....."}},
		{letters, place(1, -1), []string{".def.", ".....", ".....", "....."}},
		{letters, place(4, -1), []string{"....d", ".....", ".....", "....."}},
		{letters, place(-2, 3), []string{".....", ".....", ".....", "c...."}},
		{letters, place(5, 0), blank}, {letters, place(0, 4), blank}, {letters, place(-3, 0), blank}, {letters, place(0, -2), blank}, {letters, place(5, 4), blank}, {letters, place(-3, -2), blank}, // wholly
		{letters, place(low, low), blank}, {letters, place(high, high), blank}, {letters, place(high-2, 0), blank}, {letters, place(high-1, 0), blank}, {letters, place(0, high), blank}, // the last ones are not right
		{letters, place(low-1, 0), blank}, {letters, place(0, low-1), blank}, {letters, place(high+1, high+1), blank}, {letters, place(math.MinInt, 0), blank}, {letters, place(0, math.MinInt), blank},
		{letters, place(math.MaxInt, 0), blank}, {letters, place(0, math.MaxInt), blank}, {letters, place(math.MaxInt, math.MaxInt), blank}, {letters, place(math.MinInt, math.MinInt), blank},
		{api.Image{}, place(0, 0), blank}, {picture(0, 4), place(1, 0), blank}, {picture(5, 0), place(0, 1), blank}, // pictures without places
		{drawn("abcdefg", "hijklmn", "opqrstu", "vwxyz{|", "}~#$%&*", "0123456"), place(-1, -1), []string{"ijklm", "pqrst", "wxyz{", "~#$%&"}}, // greater than the canvas
		{plain(most, most, '#'), place(-1000, -1022), []string{"#####", "#####", ".....", "....."}}, {plain(most, 1, '#'), place(-1020, 2), []string{".....", ".....", "####.", "....."}},
		{picture(3, 2, 1, 2, 3, 4, 5), place(0, 0), blank}, {picture(3, 2, 1, 2, 3, 4, 5, 6, 7), place(0, 0), blank}, {picture(1, 1), place(0, 0), blank}, {picture(0, 0, 1), place(0, 0), blank}, // none that may be
		{picture(-1, -1, 1), place(1, 1), blank}, {picture(-2, -3, 1, 2, 3, 4, 5, 6), place(2, 3), blank}, {plain(most+1, 1, '#'), place(0, 0), blank}, {plain(1, most+1, '#'), place(0, 0), blank},
		{picture(1<<32, 1<<32), place(0, 0), blank}, {picture(math.MaxInt, math.MaxInt, 1), place(0, 0), blank}, {picture(math.MinInt, 2), place(0, 0), blank},
	} {
		m := canvas(t, 5, 4, '.')
		m.Blit(c.m, c.at)
		looks(t, "Blit", m, c.want...)
	}
	m := canvas(t, 5, 4, '.')
	m.Clip(rect(1, 1, 2, 9))
	m.Blit(letters, place(0, 0))
	m.Blit(letters, place(2, 2))
	looks(t, "Blit, clipped", m, ".....", ".ef..", "..a..", "..d..")
	m.Blit(picture(1, 1, 0x00ffffff), place(1, 1)) // colours are laid, not blended
	if got, ok := m.At(place(1, 1)); got != 0x00ffffff || !ok {
		t.Errorf("Blit of what covers nothing: %x, %v", got, ok)
	}
}

func TestFrame(t *testing.T) {
	blank := []string{"......", "......", "......", "......", "......"}
	for _, c := range []struct {
		r     api.Rect
		width int
		want  []string
	}{
		{rect(0, 0, 6, 5), 1, []string{"######", "#....#", "#....#", "#....#", "######"}},
		{rect(0, 0, 6, 5), 2, []string{"######", "######", "##..##", "######", "######"}},
		{rect(0, 0, 6, 5), 3, []string{"######", "######", "######", "######", "######"}}, // more than half
		{rect(1, 1, 4, 3), 1, []string{"......", ".####.", ".#..#.", ".####.", "......"}},
		{rect(1, 1, 4, 3), 2, []string{"......", ".####.", ".####.", ".####.", "......"}}, // half one way, more the other
		{rect(1, 1, 3, 4), 2, []string{"......", ".###..", ".###..", ".###..", ".###.."}},
		{rect(1, 1, 4, 3), 99, []string{"......", ".####.", ".####.", ".####.", "......"}},
		{rect(1, 1, 4, 3), math.MaxInt, []string{"......", ".####.", ".####.", ".####.", "......"}},
		{rect(1, 1, 3, 3), 1, []string{"......", ".###..", ".#.#..", ".###..", "......"}},
		{rect(1, 1, 2, 2), 1, []string{"......", ".##...", ".##...", "......", "......"}},
		{rect(2, 2, 1, 1), 1, []string{"......", "......", "..#...", "......", "......"}},
		{rect(1, 2, 4, 1), 1, []string{"......", "......", ".####.", "......", "......"}},
		{rect(2, 1, 1, 3), 1, []string{"......", "..#...", "..#...", "..#...", "......"}},
		{rect(1, 1, 4, 3), 0, blank}, {rect(1, 1, 4, 3), -1, blank}, {rect(1, 1, 4, 3), -9, blank}, {rect(1, 1, 4, 3), math.MinInt, blank}, {rect(0, 0, 6, 5), math.MinInt + 7, blank},
		{rect(-1, -1, 4, 4), 1, []string{"..#...", "..#...", "###...", "......", "......"}}, // over the canvas's edges: what is outside counts
		{rect(-2, 1, 9, 3), 1, []string{"......", "######", "......", "######", "......"}},
		{rect(3, 2, 9, 9), 2, []string{"......", "......", "...###", "...###", "...##."}},
		{rect(-1, -1, 8, 7), 1, blank}, {rect(-9, -9, 99, 99), 9, blank}, {rect(low, low, all, all), high - 5, blank}, // all of it around
		{rect(-2, -2, 10, 9), 3, []string{"######", "#....#", "#....#", "#....#", "######"}},
		{rect(low, low, all, all), high - 4, []string{".....#", ".....#", ".....#", ".....#", ".....#"}},
		{rect(low, low, all, all), -low - 1, []string{".#####", "######", "######", "######", "######"}},
		{rect(low, low, all, all), -low, []string{"######", "######", "######", "######", "######"}}, // just half of the plane
		{rect(0, 0, high+1, high+1), 1, []string{"######", "#.....", "#.....", "#.....", "#....."}},
		{rect(6, 0, 3, 5), 1, blank}, {rect(0, 5, 6, 3), 1, blank}, {rect(-3, 0, 3, 5), 1, blank}, {rect(0, -3, 6, 3), 9, blank}, {rect(2, 2, 0, 2), 1, blank}, {rect(2, 2, 2, 0), 1, blank}, {api.Rect{}, 1, blank},
	} {
		m := canvas(t, 6, 5, '.')
		m.Frame(c.r, c.width, '#')
		looks(t, "Frame", m, c.want...)
	}
	for _, r := range notRight() {
		for _, width := range []int{1, 2, 9, math.MaxInt, math.MaxInt - 1, high, 0, -1, math.MinInt} {
			m := canvas(t, 5, 4, '.')
			m.Frame(r, width, '#')
			looks(t, "Frame that is not right", m, ".....", ".....", ".....", ".....")
		}
	}
	m := canvas(t, 6, 5, '.')
	m.Clip(rect(2, 0, 2, 2))
	m.Frame(rect(1, 1, 3, 3), 1, '#') // of what is clipped no other frame is made
	looks(t, "Frame, clipped", m, "......", "..##..", "......", "......", "......")
	m.Clip(rect(0, 0, 9, 9))
	m.Frame(rect(0, 0, 6, 5), 1, 'o')
	m.Frame(rect(1, 0, 2, 2), 1, 'x')
	looks(t, "Frame over frame", m, "oxxooo", "oxx#.o", "o....o", "o....o", "oooooo")
}

// TestNoCanvas: a nil one, and one that no call made, have no places, whatever is done to them.
func TestNoCanvas(t *testing.T) {
	for _, c := range []*raster.Canvas{nil, {}, new(raster.Canvas)} {
		for range 2 {
			for _, r := range append(append(beside(), notRight()...), rect(0, 0, 5, 4), rect(low, low, all, all)) {
				c.Clip(r)
				c.Fill(r, 1)
				c.Over(r, 0x80ffffff)
				c.Frame(r, 1, 2)
				c.Blit(plain(2, 2, 3), place(r.X, r.Y))
			}
			c.Blit(picture(2, 2, 3), place(0, 0))
			if got := c.Image(); got.W != 0 || got.H != 0 || len(got.Pix) != 0 {
				t.Errorf("Image of none: %v", got)
			}
			for _, p := range []api.Point{{}, place(1, 1), place(low, high), place(math.MinInt, math.MaxInt)} {
				if got, ok := c.At(p); got != 0 || ok {
					t.Errorf("At(%v) of none: %d, %v", p, got, ok)
				}
			}
		}
	}
	for _, s := range [][2]int{{0, 0}, {0, 4}, {5, 0}} { // one that was made without places
		c := canvas(t, s[0], s[1], 1)
		c.Clip(rect(0, 0, 5, 4))
		c.Fill(rect(low, low, all, all), 1)
		c.Over(rect(0, 0, 5, 4), 0x80ffffff)
		c.Frame(rect(0, 0, 5, 4), 1, 2)
		c.Blit(plain(2, 2, 3), place(0, 0))
		if got := c.Image(); got.W != s[0] || got.H != s[1] || len(got.Pix) != 0 {
			t.Errorf("Image of %v: %v", s, got)
		}
	}
}

// roomy makes a picture with marked room behind its colours.
func roomy(m api.Image) (api.Image, []uint32) {
	room := append(slices.Clone(m.Pix), marked, marked, marked)
	m.Pix = room[:len(m.Pix)]
	return m, room
}

func TestMemoryOfWhatIsHandedIn(t *testing.T) {
	c := canvas(t, 5, 4, '.')
	m, room := roomy(drawn("abc", "def"))
	before := slices.Clone(room)
	raster.Right(m)
	c.Blit(m, place(1, 1))
	c.Blit(m, place(-1, 3))
	c.Fill(rect(0, 0, 5, 4), '#')
	c.Over(rect(0, 0, 5, 4), 0x80ffffff)
	c.Blit(m, place(0, 0))
	c.Frame(rect(0, 0, 5, 4), 1, '#')
	if !slices.Equal(room, before) {
		t.Errorf("a picture was changed: %v, not %v", room, before)
	}
	c.Fill(rect(0, 0, 5, 4), '.')
	c.Blit(m, place(0, 0))
	for i := range room {
		room[i] = '!'
	}
	looks(t, "a picture that was changed later", c, "abc..", "def..", ".....", ".....")
	whole := drawn("abcde", "fghij", "klmno", "pqrst") // one that is just as great may not be kept either
	c.Blit(whole, place(0, 0))
	whole.Pix[0] = '!'
	c.Fill(rect(4, 3, 1, 1), '#')
	looks(t, "a picture as great as the canvas", c, "abcde", "fghij", "klmno", "pqrs#")
	if whole.Pix[19] != 't' {
		t.Error("a picture was kept, and painted on")
	}
}

// TestMemoryOfAnswers: no picture that was answered changes later, nor does a canvas with one.
func TestMemoryOfAnswers(t *testing.T) {
	for _, s := range [][2]int{{1, 1}, {3, 2}, {5, 4}, {33, 7}, {most, 3}} {
		c := canvas(t, s[0], s[1], '.')
		first := c.Image()
		c.Fill(rect(0, 0, 1, 1), 'a')
		second, third := c.Image(), c.Image()
		c.Over(rect(low, low, all, all), 0xffabcdef)
		want := plain(s[0], s[1], '.')
		if !same(first, want) {
			t.Errorf("%v: what was answered first changed", s)
		}
		want.Pix[0] = 'a'
		if !same(second, want) || !same(third, want) {
			t.Errorf("%v: what was answered then changed", s)
		}
		for _, m := range []api.Image{first, second} {
			room := m.Pix[:cap(m.Pix)]
			for i := range room {
				room[i] = marked
			}
		}
		if !same(third, want) || !same(c.Image(), plain(s[0], s[1], 0xffabcdef)) {
			t.Errorf("%v: an answer shares memory with another one, or with the canvas", s)
		}
	}
	a, b := canvas(t, 2, 2, '.'), canvas(t, 2, 2, '.')
	a.Clip(rect(0, 0, 1, 1))
	a.Fill(rect(0, 0, 2, 2), '#')
	looks(t, "one of two canvases", a, "#.", "..")
	looks(t, "the other one", b, "..", "..")
	b.Blit(a.Image(), place(0, 0))
	a.Fill(rect(0, 0, 2, 2), 'o')
	b.Fill(rect(1, 1, 1, 1), 'x')
	looks(t, "a canvas that was painted with another one's picture", b, "#.", ".x")
	looks(t, "that other one", a, "o.", "..")
}

// TestRefusedIsNoCanvas: behind a New that is refused others are as they were.
func TestRefusedIsNoCanvas(t *testing.T) {
	c := canvas(t, 2, 1, '.')
	none, e := raster.New(-1, 2, '#')
	none.Fill(rect(0, 0, 2, 1), '#')
	if got := none.Image(); e != api.ErrArg || got.W != 0 || got.H != 0 || len(got.Pix) != 0 {
		t.Errorf("a canvas of -1 and 2: %v, %d", got, e)
	}
	looks(t, "a canvas beside", c, "..")
}
