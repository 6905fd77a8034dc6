package layout_test

import (
	"fmt"
	"slices"
	"testing"

	"casement/api"
	"casement/cons"
	"casement/geom"
	"casement/layout"
)

// dice gives numbers that are the same each time.
func dice(seed uint32) func(n int) int {
	return func(n int) int {
		seed = seed*1664525 + 1013904223
		return int(seed>>8) % n
	}
}

// thrower makes trees, with the clients from 1 on.
type thrower struct {
	roll    func(int) int
	clients int
	kinds   []int
}

func (w *thrower) con(deep int) api.Con {
	weight := []int{1, one, one, one, 2 * one, 1 + w.roll(3*one), api.MaxWeight}[w.roll(7)]
	if deep > 0 && (deep == 8 || w.roll(3) > 0) {
		w.clients++
		return api.Con{Kind: api.Leaf, Weight: weight, Client: w.clients, Seen: w.roll(6)}
	}
	c := api.Con{Kind: w.kinds[w.roll(len(w.kinds))], Weight: weight}
	for range 1 + w.roll(4) {
		c.Kids = append(c.Kids, w.con(deep+1))
	}
	return c
}

// thrownTree is a tree of some of the kinds of splits.
func thrownTree(roll func(int) int, kinds ...int) api.Con {
	for {
		w := thrower{roll: roll, kinds: kinds}
		if c := w.con(0); w.clients < 40 {
			return c
		}
	}
}

func thrownStyle(roll func(int) int) api.Style { return style(roll(4), roll(4), roll(6)) }

func thrownRect(roll func(int) int, side int) api.Rect {
	return rect(roll(60)-30, roll(60)-30, roll(side), roll(side))
}

// without is a run of places, less some at its beginning, and of what is left some at its end.
func without(start, length, ahead, behind int) (int, int) {
	for ; ahead > 0 && length > 0; ahead-- {
		start, length = start+1, length-1
	}
	return min(start, high), max(length-behind, 0)
}

func cutOff(r api.Rect, left, upper, right, lower int) api.Rect {
	r.X, r.W = without(r.X, r.W, left, right)
	r.Y, r.H = without(r.Y, r.H, upper, lower)
	return r
}

// lengths hands out what is left over of the whole parts one by one.
func lengths(total int, weights []int) []int {
	sum := 0
	for _, w := range weights {
		sum += w
	}
	var parts, over []int
	for _, w := range weights {
		parts, over = append(parts, total*w/sum), append(over, total*w%sum)
	}
	given := 0
	for _, n := range parts {
		given += n
	}
	for ; given < total; given++ {
		i := slices.Index(over, slices.Max(over))
		parts[i]++
		over[i] = -1
	}
	return parts
}

// words lays out as the chapter's words say.
type words struct {
	s      api.Style
	cells  []api.Cell
	strips []layout.Strip
}

func (w *words) leaf(client int, r api.Rect, shown, titled bool) {
	title := w.s.Title
	if !titled {
		title = 0
	}
	g, b := w.s.Gap, w.s.Border
	c := api.Cell{Client: client, Outer: r, Frame: cutOff(r, g, g, g, g), Shown: shown}
	c.Title, c.Inner = c.Frame, cutOff(c.Frame, b, b+title, b, b)
	if c.Title.H > title {
		c.Title.H = title
	}
	w.cells = append(w.cells, c)
}

// seenLast is the leaf that was seen last, of those seen as late the first.
func seenLast(c api.Con) api.Con {
	if c.Kind == api.Leaf {
		return c
	}
	last := seenLast(c.Kids[0])
	for _, kid := range c.Kids[1:] {
		if leaf := seenLast(kid); leaf.Seen > last.Seen {
			last = leaf
		}
	}
	return last
}

func (w *words) lay(c api.Con, r api.Rect, shown, titled bool) {
	var weights, clients []int
	for _, kid := range c.Kids {
		weights = append(weights, kid.Weight)
		clients = append(clients, seenLast(kid).Client)
	}
	switch c.Kind {
	case api.Leaf:
		w.leaf(c.Client, r, shown, titled)
	case api.SplitH:
		for i, n := range lengths(r.W, weights) {
			part := r
			part.X, part.W = min(r.X+sumOf(lengths(r.W, weights)[:i]), high), n
			w.lay(c.Kids[i], part, shown, true)
		}
	case api.SplitV:
		for i, n := range lengths(r.H, weights) {
			part := r
			part.Y, part.H = min(r.Y+sumOf(lengths(r.H, weights)[:i]), high), n
			w.lay(c.Kids[i], part, shown, true)
		}
	case api.Tabbed:
		w.pile(c, r, w.s.Title, shown, clients)
	case api.Stacked:
		w.pile(c, r, w.s.Title*len(c.Kids), shown, clients)
	}
}

func sumOf(l []int) int {
	n := 0
	for _, v := range l {
		n += v
	}
	return n
}

func (w *words) pile(c api.Con, r api.Rect, titles int, shown bool, clients []int) {
	at := slices.Index(clients, seenLast(c).Client)
	strip := layout.Strip{Rect: r, Down: c.Kind == api.Stacked, Clients: clients, Shown: at}
	if strip.Rect.H > titles {
		strip.Rect.H = titles
	}
	if shown {
		w.strips = append(w.strips, strip)
	}
	for i, kid := range c.Kids {
		w.lay(kid, cutOff(r, 0, strip.Rect.H, 0, 0), shown && i == at, false)
	}
}

// TestThrownPlace holds trees of all kinds against the chapter's words, also at the plane's last places.
func TestThrownPlace(t *testing.T) {
	roll := dice(1)
	strips := 0
	for i := range 6000 {
		c, r, s := thrownTree(roll, splitKinds()...), thrownRect(roll, 120), thrownStyle(roll)
		if i%5 == 0 {
			r.X, r.Y = high+1-max(r.W, 1), high+1-max(r.H, 1)
		}
		w := words{s: s}
		w.lay(c, r, true, true)
		cells, got, e := layout.Place(c, r, s)
		if e != api.OK || !slices.Equal(cells, w.cells) || !slices.EqualFunc(got, w.strips, alike) {
			t.Fatalf("Place(%v, %v, %v) =\n%v, %v, %d, not\n%v, %v", c, r, s, cells, got, e, w.cells, w.strips)
		}
		strips += len(got)
	}
	if strips < 6000 {
		t.Errorf("there were %d strips", strips)
	}
}

// TestThrownLeaf holds cells with all kinds of styles against the chapter's words.
func TestThrownLeaf(t *testing.T) {
	roll := dice(2)
	for i := range 20000 {
		r, s := thrownRect(roll, 50), style(roll(30), roll(30), roll(30))
		if i%5 == 0 {
			r.X, r.Y = high+1-max(r.W, 1), high+1-max(r.H, 1)
		}
		for _, titled := range []bool{true, false} {
			w := words{s: s}
			w.leaf(i, r, true, titled)
			if got := layout.Leaf(i, r, s, titled); got != w.cells[0] {
				t.Fatalf("Leaf(%d, %v, %v, %v) = %v, not %v", i, r, s, titled, got, w.cells[0])
			}
		}
	}
}

// TestThrownTabs: they are what a split of as many leaves with like weights has, and together the strip.
func TestThrownTabs(t *testing.T) {
	roll := dice(3)
	for range 4000 {
		r, count := thrownRect(roll, 90), 1+roll(64)
		if roll(4) == 0 {
			count = 1 + roll(4)
		}
		s, c := tabbedOf(r, count), h(leaves(1, count)...)
		if roll(2) == 0 {
			s, c = stackOf(r, count), v(leaves(1, count)...)
		}
		cells, _, _ := layout.Place(c, r, api.Style{})
		got, places := layout.Tabs(s), 0
		for i, part := range got {
			if cells[i].Outer != part || !geom.Inside(part, r) {
				t.Fatalf("Tabs(%v) = %v, but a split of as many %v", s, got, cells)
			}
			places += geom.Area(part)
		}
		if len(got) != count || places != geom.Area(r) {
			t.Fatalf("Tabs(%v) = %v: %d places", s, got, places)
		}
	}
}

// TestCovered: each place of what is laid out on is one of just one cell that is shown, or strip.
func TestCovered(t *testing.T) {
	roll := dice(4)
	for range 3000 {
		c, r, s := thrownTree(roll, splitKinds()...), thrownRect(roll, 30), thrownStyle(roll)
		cells, strips, _ := layout.Place(c, r, s)
		had := map[api.Point]int{}
		count := func(one api.Rect) {
			for x := range one.W {
				for y := range one.H {
					had[api.Point{X: one.X + x, Y: one.Y + y}]++
				}
			}
		}
		for _, cell := range cells {
			if cell.Shown {
				count(cell.Outer)
			}
		}
		for _, strip := range strips {
			count(strip.Rect)
		}
		for p, n := range had {
			if n != 1 || !geom.Has(r, p) {
				t.Fatalf("Place(%v, %v, %v): %d have %v", c, r, s, n, p)
			}
		}
		if len(had) != geom.Area(r) {
			t.Fatalf("Place(%v, %v, %v): %d places are had", c, r, s, len(had))
		}
	}
}

// TestWithin: frames lie within outer cells, titles and clients within frames, without a place in common; all of them are right.
func TestWithin(t *testing.T) {
	roll := dice(5)
	for range 4000 {
		c, r, s := thrownTree(roll, splitKinds()...), thrownRect(roll, 80), style(roll(9), roll(9), roll(15))
		cells, strips, _ := layout.Place(c, r, s)
		for _, cell := range cells {
			within := geom.Inside(cell.Outer, r) && geom.Inside(cell.Frame, cell.Outer) && geom.Inside(cell.Title, cell.Frame) && geom.Inside(cell.Inner, cell.Frame)
			right := geom.Right(cell.Outer) && geom.Right(cell.Frame) && geom.Right(cell.Title) && geom.Right(cell.Inner)
			if !within || !right || geom.Area(geom.Inter(cell.Title, cell.Inner)) > 0 {
				t.Fatalf("Place(%v, %v, %v): %v", c, r, s, cell)
			}
		}
		for _, strip := range strips {
			if !geom.Right(strip.Rect) || !geom.Inside(strip.Rect, r) || len(layout.Tabs(strip)) != len(strip.Clients) {
				t.Fatalf("Place(%v, %v, %v): %v", c, r, s, strip)
			}
		}
	}
}

// TestLastSeenIsShown: the cells are the leaves', in order; the one that was seen last of all is shown, and so are those that strips say are.
func TestLastSeenIsShown(t *testing.T) {
	roll := dice(6)
	for range 4000 {
		c, s := thrownTree(roll, splitKinds()...), thrownStyle(roll)
		cells, strips, _ := layout.Place(c, rect(0, 0, 100, 100), s)
		var clients []int
		are := map[int]bool{}
		for _, cell := range cells {
			clients = append(clients, cell.Client)
			are[cell.Client] = cell.Shown
		}
		if !slices.Equal(clients, cons.Leaves(c)) || !are[cons.Top(c)] {
			t.Fatalf("Place(%v): cells %v", c, cells)
		}
		for _, strip := range strips {
			if !are[strip.Clients[strip.Shown]] {
				t.Fatalf("Place(%v): %v, but cells %v", c, strip, cells)
			}
		}
	}
}

// TestAllAreShown where there are but splits: with no strip, whenever they were seen.
func TestAllAreShown(t *testing.T) {
	roll := dice(7)
	for range 2000 {
		c, r, s := thrownTree(roll, api.SplitH, api.SplitV), thrownRect(roll, 80), thrownStyle(roll)
		cells, strips, _ := layout.Place(c, r, s)
		places := 0
		for _, cell := range cells {
			if !cell.Shown {
				t.Fatalf("Place(%v): %v", c, cell)
			}
			places += geom.Area(cell.Outer)
		}
		if len(strips) != 0 || places != geom.Area(r) {
			t.Fatalf("Place(%v, %v): strips %v, %d places", c, r, strips, places)
		}
	}
}

// TestPlaceMoved: where the rectangle is moved, as far as the plane goes, all that is laid out on it is moved alike.
func TestPlaceMoved(t *testing.T) {
	roll := dice(8)
	for range 1500 {
		c, r, s := thrownTree(roll, splitKinds()...), thrownRect(roll, 80), thrownStyle(roll)
		cells, strips, _ := layout.Place(c, r, s)
		for _, by := range []api.Point{{X: low + 30, Y: low + 30}, {X: high - 200, Y: low + 30}, {X: 5, Y: high - 200}} {
			move := func(r api.Rect) api.Rect { return rect(r.X+by.X, r.Y+by.Y, r.W, r.H) }
			moved, titles, _ := layout.Place(c, move(r), s)
			for i, cell := range cells {
				want := api.Cell{Client: cell.Client, Outer: move(cell.Outer), Frame: move(cell.Frame), Inner: move(cell.Inner), Title: move(cell.Title), Shown: cell.Shown}
				if moved[i] != want {
					t.Fatalf("Place(%v, %v, %v): %v, but moved by %v %v", c, r, s, cell, by, moved[i])
				}
			}
			for i, strip := range strips {
				strip.Rect = move(strip.Rect)
				if !alike(titles[i], strip) {
					t.Fatalf("Place(%v, %v, %v): %v, but moved by %v %v", c, r, s, strips[i], by, titles[i])
				}
			}
		}
	}
}

// roomy is a tree whose lists have spare room, with something in it.
func roomy(c api.Con) api.Con {
	kids := make([]api.Con, 0, len(c.Kids)+2)
	for _, kid := range c.Kids {
		kids = append(kids, roomy(kid))
	}
	copy(kids[len(kids):cap(kids)], []api.Con{leaf(777), leaf(778)})
	c.Kids = kids
	return c
}

// whole is a tree as a text, the spare room of its lists included.
func whole(c api.Con) string {
	text := fmt.Sprint(c.Kind, c.Weight, c.Client, c.Seen, len(c.Kids))
	for _, kid := range c.Kids[:cap(c.Kids)] {
		text += "(" + whole(kid) + ")"
	}
	return text
}

func answer(c api.Con, r api.Rect, s api.Style) string {
	cells, strips, e := layout.Place(c, r, s)
	return fmt.Sprint(cells, strips, e)
}

// spoil writes over all that an answer has, its spare room included.
func spoil(cells []api.Cell, strips []layout.Strip) {
	for i := range cells[:cap(cells)] {
		cells[:cap(cells)][i] = api.Cell{Client: -1}
	}
	for _, strip := range strips {
		for i := range strip.Clients[:cap(strip.Clients)] {
			strip.Clients[:cap(strip.Clients)][i] = -1
		}
	}
}

// TestMemory: what is handed in is not changed; an answer shares nothing with it, with another answer, nor one strip with another.
func TestMemory(t *testing.T) {
	roll := dice(9)
	for range 1500 {
		c, r, s := roomy(thrownTree(roll, splitKinds()...)), thrownRect(roll, 80), thrownStyle(roll)
		was := whole(c)
		cells, strips, _ := layout.Place(c, r, s)
		first := fmt.Sprint(cells, strips, api.OK)
		for i, strip := range strips {
			others := fmt.Sprint(cells, strips[:i], strips[i+1:])
			kept := slices.Clone(strip.Clients)
			spoil(nil, strips[i:i+1])
			if got := fmt.Sprint(cells, strips[:i], strips[i+1:]); got != others {
				t.Fatalf("Place(%v): strips share clients: %s, then %s", c, others, got)
			}
			copy(strip.Clients, kept)
		}
		spoil(cells, strips)
		if again := answer(c, r, s); again != first || whole(c) != was {
			t.Fatalf("Place(%v, %v, %v): first %s, then %s", c, r, s, first, again)
		}
	}
}

func TestTabsMemory(t *testing.T) {
	clients := []int{1, 2, 3, 777}
	s := tabs(rect(0, 0, 9, 9), 1, clients[:3]...)
	first := layout.Tabs(s)
	text := fmt.Sprint(first)
	for i := range first[:cap(first)] {
		first[:cap(first)][i] = plane
	}
	if again := fmt.Sprint(layout.Tabs(s)); again != text || !slices.Equal(clients, []int{1, 2, 3, 777}) {
		t.Errorf("Tabs(%v) = %s, then %s", s, text, again)
	}
}
