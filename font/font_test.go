package font_test

import (
	"math"
	"slices"
	"strconv"
	"strings"
	"testing"
	"unsafe"

	"casement/api"
	"casement/font"
	"casement/raster"
)

const (
	low  = api.Low
	high = api.High
	all  = high + 1 - low // how many places the plane has, one way
	most = 1024           // so many signs of a text are painted
)

func rect(x, y, w, h int) api.Rect { return api.Rect{X: x, Y: y, W: w, H: h} }

func place(x, y int) api.Point { return api.Point{X: x, Y: y} }

func canvas(t *testing.T, w, h int, colour uint32) *raster.Canvas {
	t.Helper()
	c, e := raster.New(w, h, colour)
	if e != api.OK {
		t.Fatalf("New(%d, %d): %d", w, h, e)
	}
	return c
}

// rowsOf tells a picture of colours that are signs.
func rowsOf(m api.Image) []string {
	var rows []string
	for y := range m.H {
		var row []byte
		for _, colour := range m.Pix[y*m.W : (y+1)*m.W] {
			row = append(row, byte(colour))
		}
		rows = append(rows, string(row))
	}
	return rows
}

// looks tells whether a canvas is those rows of signs.
func looks(t *testing.T, name string, c *raster.Canvas, rows ...string) {
	t.Helper()
	if got := rowsOf(c.Image()); !slices.Equal(got, rows) {
		t.Errorf("%s:\n%s\nnot\n%s", name, strings.Join(got, "\n"), strings.Join(rows, "\n"))
	}
}

// stays tells whether nothing was painted on a canvas of points.
func stays(t *testing.T, name string, c *raster.Canvas) {
	t.Helper()
	for i, colour := range c.Image().Pix {
		if colour != '.' {
			t.Errorf("%s: painted on, at %d", name, i)
			return
		}
	}
}

// Three signs and the box, worked out of the chapter's words apart from the program.
var (
	bang = []string{
		"........", "..###...", ".###....", "..#.#.#.", ".##..##.", "...###..", ".#.#.#..", "..#.###.",
		".#...##.", "......#.", "..####..", ".####.#.", "..###.#.", ".##..#..", ".#.###..", "........",
	}
	greatA = []string{
		"........", "...####.", ".#.###..", "...####.", ".#.#..#.", "..##....", ".#..##..", "....#.#.",
		".#...##.", "....##..", ".#.#....", ".######.", ".####.#.", ".####.#.", "..##.#..", "........",
	}
	tilde = []string{
		"........", ".....##.", ".#..#.#.", "...####.", ".###..#.", ".#.#.##.", ".#.##.#.", "...####.",
		".##.#.#.", "..##.##.", ".##.#.#.", ".##.###.", ".###..#.", "..##.##.", ".####.#.", "........",
	}
	boxed = []string{
		"........", "........", ".######.", ".#....#.", ".#....#.", ".#....#.", ".#....#.", ".#....#.",
		".#....#.", ".#....#.", ".#....#.", ".#....#.", ".#....#.", ".######.", "........", "........",
	}
	nothing = slices.Repeat([]string{"........"}, 16)
)

// spelt tells a row's places, from the left.
func spelt(bits byte) string {
	var row []byte
	for place := 7; place >= 0; place-- {
		row = append(row, ".#"[bits>>place&1])
	}
	return string(row)
}

func TestSizes(t *testing.T) {
	if font.Wide != 8 || font.High != 16 {
		t.Errorf("a sign is %d wide and %d high", font.Wide, font.High)
	}
}

func TestBitsOfSigns(t *testing.T) {
	for _, c := range []struct {
		signs string
		want  []string
	}{
		{"!", bang}, {"A", greatA}, {"~", tilde}, {" ", nothing}, {"\x00\x01\n\x1f\x7f\x80\xc3\xff", boxed},
	} {
		for _, sign := range []byte(c.signs) {
			for row, want := range c.want {
				if got := spelt(font.Bits(sign, row)); got != want {
					t.Errorf("Bits(%d, %d): %s, not %s", sign, row, got, want)
				}
			}
		}
	}
	for _, c := range []struct {
		sign byte
		row  int
		want byte
	}{
		{'!', 0, 0}, {127, 2, 0x7e}, {'A', 1, 0x1e}, {200, 5, 0x42}, {' ', 5, 0}, {31, 2, 0x7e}, {'.', 1, 0x4c}, {'g', 14, 0x16}, {'a', 8, 0x56},
		{'!', 15, 0}, {'~', 0, 0}, {'~', 15, 0}, {127, 1, 0}, {127, 3, 0x42}, {127, 12, 0x42}, {127, 13, 0x7e}, {127, 14, 0}, {127, 0, 0}, {127, 15, 0},
	} {
		if got := font.Bits(c.sign, c.row); got != c.want {
			t.Errorf("Bits(%d, %d) = %02x, not %02x", c.sign, c.row, got, c.want)
		}
	}
}

// bitsByWords tells a row as the chapter's words say, place by place.
func bitsByWords(c, row int) byte {
	if row < 0 || row > 15 || c == 32 {
		return 0
	}
	if c < 33 || c > 126 {
		return []byte{0, 0, 0x7e, 0x42, 0x42, 0x42, 0x42, 0x42, 0x42, 0x42, 0x42, 0x42, 0x42, 0x7e, 0, 0}[row]
	}
	if row == 0 || row == 15 {
		return 0
	}
	together := 0
	for range c {
		together += 31
	}
	for range row {
		together += 53 + (c-c%8)/8
	}
	bits := byte(0)
	for k := 1; k <= 6; k++ {
		if together/(1<<k)%2 == 1 || k == 1+(c+row)%6 {
			bits += 1 << k
		}
	}
	return bits
}

func TestBitsOfEveryByte(t *testing.T) {
	for c := range 256 {
		for row := -1; row <= 16; row++ {
			if got, want := font.Bits(byte(c), row), bitsByWords(c, row); got != want {
				t.Errorf("Bits(%d, %d) = %02x, not %02x", c, row, got, want)
			}
		}
	}
}

// TestBitsOfFarRows: some of these rows go round to one of a sign's, if they are cut to fewer bits.
func TestBitsOfFarRows(t *testing.T) {
	for _, row := range []int{
		-1, -2, -3, -14, -16, -256, -254, 16, 17, 18, 21, 32, 255, 256, 258, 1<<16 + 2, 1<<32 + 2, 1<<32 + 5, -1 << 32, 2 - 1<<32,
		math.MinInt32, math.MaxInt32, math.MinInt, math.MinInt + 2, math.MinInt + 5, math.MaxInt, math.MaxInt - 1,
	} {
		for c := range 256 {
			if got := font.Bits(byte(c), row); got != 0 {
				t.Errorf("Bits(%d, %d) = %02x", c, row, got)
			}
		}
	}
}

func TestWidth(t *testing.T) {
	for _, c := range []struct {
		s    string
		want int
	}{
		{"", 0}, {"a", 8}, {" ", 8}, {"\n", 8}, {"\x00", 8}, {"\xff", 8}, {"abc", 24}, {"a b", 24}, {"\u00e9", 16}, {"\u20ac", 24}, {"\U0001d11e", 32},
		{strings.Repeat("a", most), 8 * most}, {strings.Repeat("a", most+1), 8*most + 8}, {strings.Repeat("\x80", 1<<20), 1 << 23},
	} {
		if got := font.Width(c.s); got != c.want {
			t.Errorf("Width of %d bytes = %d, not %d", len(c.s), got, c.want)
		}
	}
}

func TestFit(t *testing.T) {
	long := strings.Repeat("x", 5000)
	for _, c := range []struct {
		s    string
		w    int
		want string
	}{
		{"abcdef", 40, "ab..."}, {"abc", 24, "abc"}, {"abcd", 16, ""}, {"abcdef", 48, "abcdef"},
		{"", -1, ""}, {"", 0, ""}, {"", 7, ""}, {"", 8, ""}, {"", 24, ""}, {"", 32, ""}, {"", -99, ""}, {"", math.MinInt, ""}, {"", math.MaxInt, ""},
		{"a", -1, ""}, {"a", 0, ""}, {"a", 7, ""}, {"a", 8, "a"}, {"a", 23, "a"}, {"a", 24, "a"}, {"a", 31, "a"}, {"a", 32, "a"},
		{"ab", 8, ""}, {"ab", 15, ""}, {"ab", 16, "ab"}, {"ab", 17, "ab"}, {"ab", 23, "ab"}, {"ab", 24, "ab"},
		{"abc", 16, ""}, {"abc", 23, ""}, {"abc", 24, "abc"}, {"abc", 31, "abc"}, {"abc", 32, "abc"},
		{"abcd", -1, ""}, {"abcd", 0, ""}, {"abcd", 7, ""}, {"abcd", 8, ""}, {"abcd", 23, ""}, {"abcd", 24, "..."}, {"abcd", 31, "..."}, {"abcd", 32, "abcd"}, {"abcd", 33, "abcd"},
		{"abcde", 23, ""}, {"abcde", 24, "..."}, {"abcde", 31, "..."}, {"abcde", 32, "a..."}, {"abcde", 39, "a..."}, {"abcde", 40, "abcde"},
		{"\x80", 7, ""}, {"\x80", 8, "\x80"}, {"\u00e9", 8, ""}, {"\u00e9", 16, "\u00e9"}, {"\u00e9\u00e9\u00e9", 40, "\u00e9..."}, {"a\u00e9\u00e9\u00e9", 40, "a\xc3..."}, {"\u20ac\u20ac", 32, "\xe2..."}, // bytes count
		{"....", 24, "..."}, {"     ", 32, " ..."}, {"a\x00b\nc", 32, "a..."},
		{"abcd", -8, ""}, {"abcd", -24, ""}, {"abcd", -32, ""}, {"abcd", -40, ""}, {"abcd", math.MinInt, ""}, {"abcd", math.MinInt + 7, ""}, {"abcd", math.MinInt32, ""},
		{"abcd", math.MaxInt, "abcd"}, {"abcd", math.MaxInt32, "abcd"}, {"abcd", 1<<32 + 8, "abcd"}, {"abcd", -1<<32 + 32, ""},
		{long, 40000, long}, {long, 39999, long[:4996] + "..."}, {long, 24, "..."}, {long, 23, ""}, {long, math.MaxInt, long}, {long, math.MinInt, ""},
	} {
		if got := font.Fit(c.s, c.w); got != c.want {
			t.Errorf("Fit(%.20q, %d) = %.20q of %d bytes, not %.20q", c.s, c.w, got, len(got), c.want)
		}
	}
}

// TestFitByWords goes through short texts with all widths about theirs.
func TestFitByWords(t *testing.T) {
	for n := range 12 {
		s := "abcdefghijkl"[:n]
		for w := -40; w < 120; w++ {
			want := ""
			switch {
			case w < 0:
			case w >= 8*n:
				want = s
			case w >= 24:
				want = s[:(w-24-w%8)/8] + "..."
			}
			if got := font.Fit(s, w); got != want {
				t.Errorf("Fit(%q, %d) = %q, not %q", s, w, got, want)
			}
		}
	}
}

// TestFitMemory lays a text over bytes that change later: an answer does not.
func TestFitMemory(t *testing.T) {
	for _, c := range []struct {
		w    int
		want string
	}{
		{40, "abcde"}, {99, "abcde"}, {math.MaxInt, "abcde"}, {32, "a..."}, {24, "..."}, {8, ""},
	} {
		room := []byte("abcde")
		s := unsafe.String(&room[0], len(room))
		got, again := font.Fit(s, c.w), font.Fit(s, c.w)
		if string(room) != "abcde" {
			t.Errorf("Fit to %d changed the text to %q", c.w, room)
		}
		copy(room, "vwxyz")
		if got != c.want || again != c.want {
			t.Errorf("Fit to %d: %q and %q, behind a change of the text, not %q", c.w, got, again, c.want)
		}
		if c.want != "" && unsafe.StringData(got) == unsafe.StringData(again) {
			t.Errorf("Fit to %d: two answers share memory", c.w)
		}
	}
}

func TestDrawSigns(t *testing.T) {
	for _, s := range []struct {
		text string
		want []string
	}{
		{"!", bang}, {"A", greatA}, {"~", tilde}, {" ", nothing}, {"\x80", boxed}, {"\x00", boxed}, {"", nothing},
	} {
		c := canvas(t, 8, 16, '.')
		font.Draw(c, place(0, 0), s.text, '#')
		looks(t, s.text, c, s.want...)
	}
	c := canvas(t, 8, 16, '.')
	font.Draw(c, place(0, 0), "A", '.')
	stays(t, "a sign of the ground's colour", c)
}

// TestDrawTexts: sign by sign to the right, the empty ones too, byte by byte.
func TestDrawTexts(t *testing.T) {
	for _, s := range []struct {
		text  string
		signs [][]string
	}{
		{"A!~", [][]string{greatA, bang, tilde}}, {"~ A", [][]string{tilde, nothing, greatA}}, {"\u00e9!\x00", [][]string{boxed, boxed, bang, boxed}}, {"  !", [][]string{nothing, nothing, bang}},
		{"A\nA", [][]string{greatA, boxed, greatA}}, {"AAAAAA", [][]string{greatA, greatA, greatA, greatA, greatA, greatA}},
	} {
		var rows []string
		for row := range 16 {
			all := ""
			for _, sign := range s.signs {
				all += sign[row]
			}
			rows = append(rows, all)
		}
		c := canvas(t, 8*len(s.signs), 16, '.')
		font.Draw(c, place(0, 0), s.text, '#')
		looks(t, s.text, c, rows...)
	}
}

// TestDrawAtEdges: what reaches over the canvas's edges is cut, at each side.
func TestDrawAtEdges(t *testing.T) {
	for _, s := range []struct {
		at   api.Point
		want []string
	}{
		{place(2, -1), []string{"....###.", "...###..", "....#.#.", "...##..#"}}, // from its row 1 on
		{place(-3, -2), []string{"#.......", ".#.#....", "..##....", "###....."}},
		{place(0, -12), []string{"..###.#.", ".##..#..", ".#.###..", "........"}}, // over the upper edge, from its row 12 on
		{place(7, -1), []string{"........", "........", "........", "........"}},  // the first column of all signs is empty
		{place(6, -2), []string{".......#", "........", ".......#", "........"}},
		{place(-6, -4), []string{"#.......", "........", "........", "#......."}},
		{place(1, 2), []string{"........", "........", "........", "...###.."}}, // over the lower edge
		{place(8, 0), []string{"........", "........", "........", "........"}}, {place(0, 4), []string{"........", "........", "........", "........"}}, {place(-8, 0), []string{"........", "........", "........", "........"}}, {place(0, -16), []string{"........", "........", "........", "........"}},
	} {
		c := canvas(t, 8, 4, '.')
		font.Draw(c, s.at, "!", '#')
		looks(t, "! at "+name(s.at), c, s.want...)
	}
}

func name(p api.Point) string { return strconv.Itoa(p.X) + " " + strconv.Itoa(p.Y) }

// TestDrawColours: a colour is laid as it is, not blended; where a sign has no place all stays as it was.
func TestDrawColours(t *testing.T) {
	for _, under := range []uint32{0, 0xff000000, 0x80123456} {
		for _, colour := range []uint32{0, 7, 0xffffffff, 0x80ffffff, 0x00ffffff} {
			c := canvas(t, 8, 16, under)
			font.Draw(c, place(0, 0), "A", colour)
			for y, row := range greatA {
				for x, sign := range []byte(row) {
					want := under
					if sign == '#' {
						want = colour
					}
					if got, ok := c.At(place(x, y)); got != want || !ok {
						t.Fatalf("%08x on %08x, at %d %d: %08x, %v", colour, under, x, y, got, ok)
					}
				}
			}
		}
	}
	c := canvas(t, 8, 16, '.')
	font.Draw(c, place(0, 0), "!", 'o')
	font.Draw(c, place(0, 0), "A", '#')
	for y := range 16 {
		for x := range 8 {
			want := greatA[y][x]
			if want == '.' && bang[y][x] == '#' {
				want = 'o'
			}
			if got, _ := c.At(place(x, y)); got != uint32(want) {
				t.Errorf("one text over another one, at %d %d: %c, not %c", x, y, got, want)
			}
		}
	}
}

// TestDrawClipped: a clip cuts through signs, and stays as it was.
func TestDrawClipped(t *testing.T) {
	for _, s := range []struct {
		clip api.Rect
		want []string
	}{
		{rect(0, 0, 16, 6), []string{"................", "..###......####.", ".###.....#.###..", "..#.#.#....####.", ".##..##..#.#..#.", "...###....##...."}},
		{rect(4, 2, 8, 3), []string{"................", "................", ".........#.#....", "....#.#....#....", ".....##..#.#....", "................"}},
		{rect(3, 1, 1, 1), []string{"................", "...#............", "................", "................", "................", "................"}},
		{rect(8, -9, 99, 11), []string{"................", "...........####.", "................", "................", "................", "................"}},
		{rect(0, 0, 0, 6), slices.Repeat([]string{"................"}, 6)}, {rect(16, 0, 4, 4), slices.Repeat([]string{"................"}, 6)}, {rect(0, 0, high+2, 4), slices.Repeat([]string{"................"}, 6)},
	} {
		c := canvas(t, 16, 6, '.')
		c.Clip(s.clip)
		font.Draw(c, place(0, 0), "!A", '#')
		looks(t, "clipped", c, s.want...)
		c.Fill(rect(low, low, all, all), 'x')
		if got, want := strings.Count(strings.Join(rowsOf(c.Image()), ""), "x"), placesOf(s.clip, 16, 6); got != want {
			t.Errorf("behind Draw %d places may be painted on, not %d", got, want)
		}
	}
}

// placesOf counts how many of a canvas's places a clip has.
func placesOf(clip api.Rect, w, h int) int {
	n := 0
	for i := range w * h {
		if x, y := i%w, i/w; clip.W <= high && x >= clip.X && x < clip.X+clip.W && y >= clip.Y && y < clip.Y+clip.H {
			n++
		}
	}
	return n
}

// TestDrawMostSigns: behind 1024 signs no more are painted, wherever the text begins.
func TestDrawMostSigns(t *testing.T) {
	for _, s := range []struct {
		x, n        int
		left, right []string
	}{
		{-8 * (most - 2), most - 2, nothing, nothing}, {-8 * (most - 2), most - 1, boxed, nothing}, {-8 * (most - 2), most, boxed, boxed}, {-8 * (most - 2), most + 1, boxed, boxed},
		{-8 * (most - 1), most - 1, nothing, nothing}, {-8 * (most - 1), most, boxed, nothing}, {-8 * (most - 1), most + 1, boxed, nothing}, {-8 * (most - 1), 9 * most, boxed, nothing},
		{-8 * most, most, nothing, nothing}, {-8 * most, most + 1, nothing, nothing}, {-8 * most, 9 * most, nothing, nothing}, {-8 * (most + 1), 9 * most, nothing, nothing},
		{-8, most, boxed, boxed}, {0, most + 1, boxed, boxed}, {low, 9 * most, nothing, nothing}, {low, 1 << 20, nothing, nothing},
	} {
		var rows []string
		for row := range 16 {
			rows = append(rows, s.left[row]+s.right[row])
		}
		c := canvas(t, 16, 16, '.')
		font.Draw(c, place(s.x, 0), strings.Repeat("\x80", s.n), '#')
		looks(t, strconv.Itoa(s.n)+" signs from "+strconv.Itoa(s.x)+" on", c, rows...)
	}
	c := canvas(t, 16, 16, '.')
	font.Draw(c, place(-8*(most-1), 0), strings.Repeat(" ", most-1)+"A!", '#') // blanks count
	font.Draw(c, place(-8*(most-1)+8, 0), strings.Repeat(" ", most-1)+"!A", '#')
	for row, got := range rowsOf(c.Image()) {
		if want := greatA[row] + bang[row]; got != want {
			t.Errorf("the last ones of 1025 signs, row %d: %s, not %s", row, got, want)
		}
	}
}

// farPlaces are about the plane's edges, beside it, and far outside: from none of them a text reaches a canvas.
func farPlaces() []api.Point {
	var l []api.Point
	for _, n := range []int{
		low, low + 1, low + 9, low - 1, low - 8, low - 16, high, high - 1, high - 6, high - 7, high - 8, high - 15, high - 16, high - 100, high + 1, high + 2, high + 9, 1<<32 + low, 1 << 32, -1 << 32, 1<<16 - 4,
		math.MinInt32, math.MaxInt32, math.MinInt, math.MinInt + 1, math.MinInt + 9, math.MaxInt, math.MaxInt - 3, math.MaxInt - 7, math.MaxInt - 8, math.MaxInt - 15, math.MaxInt - 16,
	} {
		l = append(l, place(n, 0), place(0, n), place(-4, n), place(n, -4), place(n, n), place(n, low), place(high, n))
	}
	return l
}

func TestDrawFar(t *testing.T) {
	long := strings.Repeat("A", 9*most)
	for _, p := range farPlaces() {
		c := canvas(t, 40, 40, '.')
		for _, s := range []string{"", "A", "ab", "\x80\x80\x80", long} {
			font.Draw(c, p, s, '#')
		}
		stays(t, "Draw at "+name(p), c)
	}
}

// TestDrawOnNone: a nil canvas, one that no call made, and those without places.
func TestDrawOnNone(t *testing.T) {
	for _, c := range []*raster.Canvas{nil, {}, new(raster.Canvas), canvas(t, 0, 0, 1), canvas(t, 0, 16, 1), canvas(t, 16, 0, 1)} {
		before := c.Image()
		for _, p := range append(farPlaces(), place(0, 0), place(-4, -4)) {
			font.Draw(c, p, "A\x80", 7)
		}
		font.Draw(c, place(0, 0), strings.Repeat("A", most+1), 7)
		if m := c.Image(); m.W != before.W || m.H != before.H || len(m.Pix) != 0 {
			t.Errorf("a canvas without places became %d, %d with %d colours", m.W, m.H, len(m.Pix))
		}
	}
}

// TestDrawOnLargest: a canvas of all the places that there may be, and one of one place.
func TestDrawOnLargest(t *testing.T) {
	c := canvas(t, api.MaxSide, 16, '.')
	font.Draw(c, place(0, 0), strings.Repeat("~", 200), '#')
	for row, got := range rowsOf(c.Image()) {
		if want := strings.Repeat(tilde[row], api.MaxSide/8); got != want {
			t.Errorf("row %d: %s", row, got)
		}
	}
	for y := range 16 {
		for x := range 8 {
			c := canvas(t, 1, 1, '.')
			font.Draw(c, place(-x, -y), "A", '#')
			looks(t, "one place", c, greatA[y][x:x+1])
		}
	}
}
