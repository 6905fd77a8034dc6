package area_test

import (
	"math"
	"slices"
	"strings"
	"testing"

	"casement/api"
	"casement/area"
)

const (
	low  = api.Low
	high = api.High
	all  = high + 1 - low // how many places the plane has, one way
)

// plane is the greatest rectangle that there is.
var plane = rect(low, low, all, all)

func rect(x, y, w, h int) api.Rect { return api.Rect{X: x, Y: y, W: w, H: h} }

func place(x, y int) api.Point { return api.Point{X: x, Y: y} }

func output(name string, r api.Rect) api.Output { return api.Output{Name: name, Rect: r} }

// screens have names of their own: A, B, and so on.
func screens(rects ...api.Rect) []api.Output {
	var l []api.Output
	for i, r := range rects {
		l = append(l, output(string(rune('A'+i)), r))
	}
	return l
}

// row is screens beside each other that touch.
func row(n int) []api.Output {
	var rects []api.Rect
	for i := range n {
		rects = append(rects, rect(10*i, 0, 10, 10))
	}
	return screens(rects...)
}

// wrong rectangles: off the plane, of lengths below 0, of numbers whose sums and products go round.
func wrong() []api.Rect {
	var l []api.Rect
	for _, run := range [][2]int{
		{low - 1, 1}, {low - 1, 0}, {low - 1, 100}, {high + 1, 0}, {high + 1, 1}, {high, 2}, {low, all + 1}, {0, high + 2}, {0, -1}, {high, -1}, {10, -10}, {-5, -5}, {math.MinInt, 0},
		{math.MaxInt, 0}, {math.MaxInt, 1}, {math.MinInt, math.MaxInt}, {math.MaxInt, math.MaxInt}, {math.MaxInt, math.MinInt}, {math.MinInt, math.MinInt}, {0, math.MaxInt}, {0, math.MinInt}, {1, math.MaxInt},
	} {
		l = append(l, rect(run[0], 0, run[1], 4), rect(0, run[0], 4, run[1]), rect(run[0], run[0], run[1], run[1]))
	}
	return l
}

// hollow rectangles are right, but have no place.
func hollow() []api.Rect {
	return []api.Rect{
		{}, rect(0, 0, 0, 5), rect(0, 0, 5, 0), rect(3, 4, 0, 9), rect(high, high, 0, 0), rect(low, low, 0, 0), rect(high, 0, 0, 4), rect(0, high, 4, 0), rect(low, low, all, 0), rect(low, low, 0, all),
	}
}

// everywhere puts something into a list at each place, and behind it.
func everywhere(l []api.Output, o api.Output) [][]api.Output {
	var more [][]api.Output
	for i := range len(l) + 1 {
		more = append(more, slices.Insert(slices.Clone(l), i, o))
	}
	return more
}

func TestCheckOK(t *testing.T) {
	for _, l := range [][]api.Output{
		nil, {}, screens(rect(0, 0, 1, 1)), screens(plane), row(2), row(15), row(16),
		screens(rect(0, 0, 10, 10), rect(10, 10, 5, 5), rect(10, 0, 5, 10), rect(0, 10, 10, 5)),
		screens(rect(5, 5, 10, 10), rect(0, 0, 5, 5), rect(15, 15, 5, 5), rect(15, 0, 5, 5), rect(0, 15, 5, 5)),
		screens(rect(0, 0, 9, 1), rect(0, 1, 9, 1), rect(0, -1, 9, 1), rect(0, 8, 9, 100)),
		screens(rect(low, low, 1, 1), rect(high, high, 1, 1), rect(high, low, 1, 1), rect(low, high, 1, 1), rect(low+1, low+1, all-2, all-2)),
		screens(rect(low, low, all, high+1), rect(low, 1, all, high)),
		screens(rect(low, low, high+1, all), rect(1, low, high, all)),
		screens(rect(0, 0, 10, 1), rect(0, 1, 1, 9), rect(9, 1, 1, 9), rect(1, 9, 8, 1), rect(1, 1, 8, 8)),
		{output("a", rect(0, 0, 5, 5)), output("A", rect(5, 0, 5, 5)), output("aa", rect(10, 0, 5, 5)), output("a_", rect(15, 0, 5, 5)), output("_", rect(20, 0, 5, 5)), output("0", rect(25, 0, 5, 5))},
		{output(strings.Repeat("a", 32), rect(0, 0, 5, 5)), output(strings.Repeat("a", 31)+"b", rect(5, 0, 5, 5)), output(strings.Repeat("a", 31), rect(10, 0, 5, 5)), output("HDMI_1", rect(15, 0, 5, 5))},
	} {
		if e := area.Check(l); e != api.OK {
			t.Errorf("Check(%v) = %d", l, e)
		}
	}
}

// TestCheckLimit: too many is told ahead of all that may be wrong with one of them.
func TestCheckLimit(t *testing.T) {
	wild := slices.Repeat([]api.Output{{}}, 17)
	alike := slices.Repeat(screens(rect(0, 0, 5, 5)), 17)
	long := append(row(26), output("", rect(0, 0, -1, -1)))
	for _, l := range [][]api.Output{row(17), row(26), wild, alike, long, slices.Repeat(wild, 1000), append(row(16), output("A", rect(0, 0, 0, 0))), append(row(16), output("X", rect(0, 0, 1, 1)))} {
		if e := area.Check(l); e != api.ErrLimit {
			t.Errorf("Check of %d = %d", len(l), e)
		}
	}
	for _, l := range [][]api.Output{wild[:16], wild[:1], alike[:16], alike[:2]} {
		if e := area.Check(l); e != api.ErrOutput {
			t.Errorf("Check of %d = %d", len(l), e)
		}
	}
}

// noScreen holds what can't be one of screens, at each place among them and alone.
func noScreen(t *testing.T, o api.Output) {
	t.Helper()
	for _, n := range []int{0, 1, 4, 15} {
		for _, l := range everywhere(row(n), o) {
			if e := area.Check(l); e != api.ErrOutput {
				t.Errorf("Check(%v) = %d", l, e)
			}
		}
	}
}

func TestCheckNoName(t *testing.T) {
	names := []string{"", strings.Repeat("a", 33), strings.Repeat("a", 1000), "a b", "a-1", " A", "A ", "A\x00", "\x00", "\u00e4", "\u0431", "\uff21", "\xff", "a\n"}
	for c := range 256 {
		if sign := string([]byte{byte(c)}); !strings.Contains("abcdefghijklmnopqrstuvwxyzABCDEFGHIJKLMNOPQRSTUVWXYZ0123456789_", sign) {
			names = append(names, sign, "a"+sign+"b")
		}
	}
	for _, name := range names {
		noScreen(t, output(name, rect(500, 0, 5, 5)))
	}
}

func TestCheckNamesAlike(t *testing.T) {
	for n := 2; n <= 16; n++ {
		for i := range n {
			for j := range i {
				l := row(n)
				l[i].Name = l[j].Name
				if e := area.Check(l); e != api.ErrOutput {
					t.Errorf("Check(%v) = %d", l, e)
				}
			}
		}
	}
	name := strings.Repeat("x", 32)
	if e := area.Check([]api.Output{output(name, rect(0, 0, 5, 5)), output(strings.Clone(name), rect(5, 0, 5, 5))}); e != api.ErrOutput {
		t.Errorf("Check of names alike = %d", e)
	}
}

func TestCheckEmpty(t *testing.T) {
	for _, r := range append(wrong(), hollow()...) {
		noScreen(t, output("Z", r))
	}
}

func TestCheckShared(t *testing.T) {
	mid := rect(0, 0, 10, 10)
	for _, r := range []api.Rect{
		mid, plane, rect(9, 9, 1, 1), rect(9, 9, 5, 5), rect(-4, -4, 5, 5), rect(9, -4, 5, 5), rect(-4, 9, 5, 5), rect(3, 3, 2, 2), rect(-1, -1, 12, 12), rect(4, -5, 1, 100), rect(-5, 4, 100, 1),
		rect(0, 0, 10, 1), rect(9, 0, 1, 10), rect(0, 9, 99, 1), rect(low, low, high+2, high+2), rect(low, 0, all, 1), rect(0, low, 1, all),
	} {
		for _, l := range [][]api.Output{screens(mid, r), screens(r, mid), screens(mid, rect(200, 0, 5, 5), r), screens(r, rect(200, 200, 5, 5), mid, rect(200, 300, 5, 5))} {
			if e := area.Check(l); e != api.ErrOutput {
				t.Errorf("Check(%v) = %d", l, e)
			}
		}
	}
	for n := 2; n <= 16; n++ {
		for i := range n {
			for j := range i {
				for _, r := range []api.Rect{rect(10*j+9, 9, 1, 1), rect(10*j, 0, 1, 1), rect(10*j+5, 0, 1, 90)} {
					l := row(n)
					l[i].Rect = r
					if e := area.Check(l); e != api.ErrOutput {
						t.Errorf("Check(%v) = %d", l, e)
					}
				}
			}
		}
	}
}

// work is a case of Work: struts on a screen of the name A.
type work struct {
	r    api.Rect
	l    []api.Strut
	want api.Rect
}

func keep(name string, left, top, right, bottom int) api.Strut {
	return api.Strut{Output: name, Left: left, Top: top, Right: right, Bottom: bottom}
}

func checkWork(t *testing.T, name string, cases []work) {
	t.Helper()
	for _, c := range cases {
		if got := area.Work(output(name, c.r), c.l); got != c.want {
			t.Errorf("Work(%s %v, %v) = %v, not %v", name, c.r, c.l, got, c.want)
		}
	}
}

func TestWork(t *testing.T) {
	r := rect(0, 0, 100, 100)
	off := rect(-30, 20, 50, 40)
	checkWork(t, "A", []work{
		{r, []api.Strut{keep("A", 0, 20, 0, 0), keep("A", 5, 10, 0, 0)}, rect(5, 20, 95, 80)}, // the chapter's example
		{r, nil, r}, {r, []api.Strut{}, r}, {off, nil, off}, {plane, nil, plane},
		{r, []api.Strut{keep("A", 3, 0, 0, 0)}, rect(3, 0, 97, 100)}, {r, []api.Strut{keep("A", 0, 3, 0, 0)}, rect(0, 3, 100, 97)}, {r, []api.Strut{keep("A", 0, 0, 3, 0)}, rect(0, 0, 97, 100)}, {r, []api.Strut{keep("A", 0, 0, 0, 3)}, rect(0, 0, 100, 97)},
		{off, []api.Strut{keep("A", 1, 2, 3, 4)}, rect(-29, 22, 46, 34)},
		{off, []api.Strut{keep("A", 1, 2, 3, 4), keep("A", 5, 1, 7, 2)}, rect(-25, 22, 38, 34)}, {off, []api.Strut{keep("A", 5, 1, 7, 2), keep("A", 1, 2, 3, 4)}, rect(-25, 22, 38, 34)},
		{off, []api.Strut{keep("A", 4, 0, 0, 0), keep("A", 0, 4, 0, 0), keep("A", 0, 0, 4, 0), keep("A", 0, 0, 0, 4)}, rect(-26, 24, 42, 32)},
		{off, []api.Strut{keep("A", 1, 1, 1, 1), keep("A", 9, 8, 7, 6), keep("A", 2, 2, 2, 2)}, rect(-21, 28, 34, 26)},
		{off, slices.Repeat([]api.Strut{keep("A", 4, 4, 4, 4)}, 5000), rect(-26, 24, 42, 32)},
		{off, []api.Strut{keep("A", 49, 39, 0, 0)}, rect(19, 59, 1, 1)}, {off, []api.Strut{keep("A", 0, 0, 49, 39)}, rect(-30, 20, 1, 1)}, {off, []api.Strut{keep("A", 25, 20, 24, 19)}, rect(-5, 40, 1, 1)},
	})
}

// TestWorkBelowNothing: numbers below 0 keep nothing free, and take nothing off others.
func TestWorkBelowNothing(t *testing.T) {
	r := rect(10, 10, 20, 20)
	var l []work
	for _, n := range []int{0, -1, -4, -20, -32769, math.MinInt32, math.MinInt} {
		l = append(l,
			work{r, []api.Strut{keep("A", n, n, n, n)}, r}, work{r, []api.Strut{keep("A", n, n, n, n), keep("A", n, n, n, n)}, r},
			work{r, []api.Strut{keep("A", n, n, n, n), keep("A", 1, 2, 3, 4)}, rect(11, 12, 16, 14)}, work{r, []api.Strut{keep("A", 1, 2, 3, 4), keep("A", n, n, n, n)}, rect(11, 12, 16, 14)},
			work{r, []api.Strut{keep("A", n, 2, n, 4)}, rect(10, 12, 20, 14)}, work{r, []api.Strut{keep("A", 1, n, 3, n)}, rect(11, 10, 16, 20)},
		)
	}
	checkWork(t, "A", l)
}

// TestWorkTooMuch: what is left is nothing, and stands where geom.Inset leaves it.
func TestWorkTooMuch(t *testing.T) {
	r := rect(10, 10, 20, 20)
	far := []int{20, 21, 1000, 32767, 65536, math.MaxInt32, math.MaxInt - 1, math.MaxInt}
	var l []work
	for _, n := range far {
		l = append(l,
			work{r, []api.Strut{keep("A", n, 0, 0, 0)}, rect(30, 10, 0, 20)}, work{r, []api.Strut{keep("A", 0, n, 0, 0)}, rect(10, 30, 20, 0)}, work{r, []api.Strut{keep("A", 0, 0, n, 0)}, rect(10, 10, 0, 20)}, work{r, []api.Strut{keep("A", 0, 0, 0, n)}, rect(10, 10, 20, 0)},
			work{r, []api.Strut{keep("A", 5, 0, n, 0)}, rect(15, 10, 0, 20)}, work{r, []api.Strut{keep("A", 0, 5, 0, n)}, rect(10, 15, 20, 0)}, work{r, []api.Strut{keep("A", 5, 6, 15, 14)}, rect(15, 16, 0, 0)}, work{r, []api.Strut{keep("A", n, n, n, n)}, rect(30, 30, 0, 0)},
			work{r, []api.Strut{keep("A", 12, 0, 0, 0), keep("A", 0, 0, 12, 0)}, rect(22, 10, 0, 20)}, work{r, []api.Strut{keep("A", 0, 0, 0, 12), keep("A", 0, 12, 0, 0)}, rect(10, 22, 20, 0)},
			work{plane, []api.Strut{keep("A", max(n, all), max(n, all), 0, 0)}, rect(high, high, 0, 0)}, work{rect(high, high, 1, 1), []api.Strut{keep("A", n, 0, 0, n)}, rect(high, high, 0, 0)},
		)
	}
	checkWork(t, "A", l)
}

// TestWorkOfOthers: struts of other names keep nothing free, whatever names they are.
func TestWorkOfOthers(t *testing.T) {
	r := rect(0, 0, 100, 50)
	names := []string{"A", "a", "", "AA", "B", "A ", " A", "A\x00", "\u00c4", strings.Repeat("A", 40)}
	for i, name := range names {
		var others []api.Strut
		for j, other := range names {
			if j != i {
				others = append(others, keep(other, 9, 9, 9, 9))
			}
		}
		own := keep(name, 1, 2, 3, 4)
		checkWork(t, name, []work{
			{r, others, r}, {r, append(others, own), rect(1, 2, 96, 44)}, {r, append([]api.Strut{own}, others...), rect(1, 2, 96, 44)},
			{r, slices.Insert(slices.Clone(others), 4, own, keep(name, 0, 0, 0, 8)), rect(1, 2, 96, 40)},
		})
	}
}

func TestWorkOfWrong(t *testing.T) {
	l := []api.Strut{keep("A", 1, 1, 1, 1)}
	var cases []work
	for _, r := range wrong() {
		cases = append(cases, work{r, nil, api.Rect{}}, work{r, l, api.Rect{}})
	}
	for _, r := range hollow() {
		cases = append(cases, work{r, nil, r})
	}
	cases = append(cases, work{rect(3, 4, 0, 9), l, rect(3, 5, 0, 7)}, work{rect(3, 4, 9, 0), l, rect(4, 4, 7, 0)}, work{rect(3, 4, 0, 0), l, rect(3, 4, 0, 0)})
	checkWork(t, "A", cases)
}

// told is what may be told of screens: the place of one, or that there is none.
func told(t *testing.T, what string, got int, ok bool, want int) {
	t.Helper()
	if ok != (want >= 0) || got != max(want, 0) {
		t.Errorf("%s = %d, %v, not %d", what, got, ok, want)
	}
}

func TestAt(t *testing.T) {
	l := screens(rect(0, 0, 100, 50), rect(100, 0, 80, 60), rect(-20, -10, 20, 10))
	across := screens(rect(0, 0, 10, 10), rect(5, 5, 10, 10), rect(0, 0, 10, 10), rect(0, 0, 20, 20))
	for _, c := range []struct {
		l    []api.Output
		p    api.Point
		want int
	}{
		{nil, place(0, 0), -1}, {l, place(0, 0), 0}, {l, place(99, 49), 0}, {l, place(99, 0), 0}, {l, place(0, 49), 0}, {l, place(50, 20), 0},
		{l, place(100, 0), 1}, {l, place(100, 59), 1}, {l, place(179, 59), 1}, {l, place(179, 0), 1}, {l, place(-1, -1), 2}, {l, place(-20, -10), 2},
		{l, place(99, 50), -1}, {l, place(180, 0), -1}, {l, place(100, 60), -1}, {l, place(-1, 0), -1}, {l, place(0, -1), -1}, {l, place(-21, -10), -1}, {l, place(-20, -11), -1},
		{l, place(math.MaxInt, math.MaxInt), -1}, {l, place(math.MinInt, math.MinInt), -1}, {l, place(math.MinInt, 0), -1}, {l, place(0, math.MaxInt), -1},
		{across, place(5, 5), 0}, {across, place(9, 9), 0}, {across, place(10, 10), 1}, {across, place(2, 2), 0}, {across, place(2, 12), 3}, {across, place(14, 14), 1}, {across, place(15, 15), 3}, {across, place(20, 5), -1},
		{screens(plane), place(low, low), 0}, {screens(plane), place(high, high), 0}, {screens(plane), place(high+1, 0), -1}, {screens(plane), place(0, low-1), -1},
		{slices.Repeat(across, 500), place(15, 15), 3}, {append(slices.Repeat(l, 500), output("", rect(900, 0, 1, 1))), place(900, 0), 1500},
	} {
		i, ok := area.At(c.l, c.p)
		told(t, "At", i, ok, c.want)
	}
	var none []api.Rect
	for _, r := range append(wrong(), hollow()...) {
		none = append(none, r)
		i, ok := area.At(screens(r), place(r.X, r.Y))
		told(t, "At of an empty one", i, ok, -1)
	}
	i, ok := area.At(screens(append(none, rect(0, 0, 9, 9))...), place(3, 4))
	told(t, "At behind empty ones", i, ok, len(none))
}

func TestFind(t *testing.T) {
	l := []api.Output{output("A", rect(0, 0, 5, 5)), output("b", rect(5, 0, 5, 5)), output("A", rect(9, 9, 9, 9)), output("AA", api.Rect{}), output("b", api.Rect{}), output("a b", rect(0, 0, -1, math.MaxInt)), output("B", rect(0, 0, 5, 5))}
	for _, c := range []struct {
		name string
		want int
	}{{"A", 0}, {"b", 1}, {"AA", 3}, {"a b", 5}, {"B", 6}, {"", -1}, {"a", -1}, {"AAA", -1}, {"A ", -1}, {"A\x00", -1}, {"\xff", -1}, {strings.Repeat("A", 33), -1}} {
		i, ok := area.Find(l, c.name)
		told(t, "Find "+c.name, i, ok, c.want)
		i, ok = area.Find(nil, c.name)
		told(t, "Find in nothing "+c.name, i, ok, -1)
		long := slices.Repeat([]api.Output{output("zz", api.Rect{})}, 3000)
		i, ok = area.Find(append(long, output(c.name, api.Rect{})), c.name)
		told(t, "Find in many "+c.name, i, ok, 3000)
	}
	i, ok := area.Find(append(l, output("", api.Rect{}), output("", api.Rect{})), "")
	told(t, "Find of no name", i, ok, 7)
}
