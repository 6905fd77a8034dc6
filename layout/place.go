package layout

import (
	"slices"

	"casement/api"
	"casement/cons"
	"casement/geom"
	"casement/share"
)

// Strip is the titles of a tabbed or stacked split: where they stand, the client that each names, and which is shown.
type Strip struct {
	Rect    api.Rect
	Down    bool
	Clients []int
	Shown   int
}

// Place lays a tree out on a rectangle.
func Place(c api.Con, r api.Rect, s api.Style) ([]api.Cell, []Strip, api.Errno) {
	if e := cons.Check(c); e != api.OK {
		return nil, nil, e
	}
	if !geom.Right(r) {
		return nil, nil, api.ErrRect
	}
	if e := Check(s); e != api.OK {
		return nil, nil, e
	}
	p := plan{style: s}
	p.lay(c, r, true, true)
	return p.cells, p.strips, api.OK
}

// plan is what has been laid out so far.
type plan struct {
	style  api.Style
	cells  []api.Cell
	strips []Strip
}

func (p *plan) lay(c api.Con, r api.Rect, shown, titled bool) {
	switch c.Kind {
	case api.Leaf:
		cell := Leaf(c.Client, r, p.style, titled)
		cell.Shown = shown
		p.cells = append(p.cells, cell)
	case api.SplitH, api.SplitV:
		p.row(c, r, shown)
	default:
		p.pile(c, r, shown)
	}
}

// row lays out kids that stand side by side, or one above the other.
func (p *plan) row(c api.Con, r api.Rect, shown bool) {
	var weights []int
	for _, kid := range c.Kids {
		weights = append(weights, kid.Weight)
	}
	for i, part := range cut(r, c.Kind == api.SplitV, weights) {
		p.lay(c.Kids[i], part, shown, true)
	}
}

// pile lays out kids that have one place together: none of them has a title of its own, as the strip has those of all.
func (p *plan) pile(c api.Con, r api.Rect, shown bool) {
	if len(c.Kids) == 0 {
		return
	}
	high := p.style.Title
	if c.Kind == api.Stacked {
		high *= len(c.Kids)
	}
	titles, rest := takeTop(r, high)
	clients := lastSeen(c.Kids)
	top := slices.Index(clients, cons.Top(c))
	if shown {
		p.strips = append(p.strips, Strip{Rect: titles, Down: c.Kind == api.Stacked, Clients: clients, Shown: top})
	}
	for i, kid := range c.Kids {
		p.lay(kid, rest, shown && i == top, false)
	}
}

// lastSeen tells of each container the client that was seen last.
func lastSeen(kids []api.Con) []int {
	var clients []int
	for _, kid := range kids {
		client := kid.Client
		if kid.Kind != api.Leaf {
			client = cons.Top(kid)
		}
		clients = append(clients, client)
	}
	return clients
}

// Tabs tells where each title of a strip stands.
func Tabs(s Strip) []api.Rect {
	if len(s.Clients) > api.MaxParts || !geom.Right(s.Rect) {
		return nil
	}
	return cut(s.Rect, s.Down, slices.Repeat([]int{share.One}, len(s.Clients)))
}

// cut cuts a right rectangle in parts by weights: side by side, or downwards. By no weights there are none.
func cut(r api.Rect, down bool, weights []int) []api.Rect {
	length := r.W
	if down {
		length = r.H
	}
	lengths, _ := share.Split(length, weights) // an error has no lengths, just as there are no parts then
	var parts []api.Rect
	ahead := 0
	for _, n := range lengths {
		behind := length - ahead - n
		edges := geom.Edges{Left: ahead, Right: behind}
		if down {
			edges = geom.Edges{Top: ahead, Bottom: behind}
		}
		parts = append(parts, geom.Inset(r, edges))
		ahead += n
	}
	return parts
}
