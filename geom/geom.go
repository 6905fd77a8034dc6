// Package geom is points and rectangles on a plane with edges.
package geom

import (
	"cmp"

	"casement/api"
)

// nearest asks for least last, so that least holds where most is below it.
func nearest[T cmp.Ordered](v, least, most T) T {
	return max(min(v, most), least)
}

// Span tells the number from a least one to a greatest one that is nearest to a number.
func Span(v, least, most int) int { return nearest(v, least, most) }

// Clamp tells the nearest place on the plane.
func Clamp(v int) int { return Span(v, api.Low, api.High) }

// onPlane holds the length against the room there is, as the start and the length together may be too great for an int.
func onPlane(start, length int) bool {
	return start == Clamp(start) && length >= 0 && length <= api.High+1-start
}

// Right tells whether a rectangle lies on the plane.
func Right(r api.Rect) bool { return onPlane(r.X, r.W) && onPlane(r.Y, r.H) }

// Empty tells whether a rectangle has no place.
func Empty(r api.Rect) bool { return !Right(r) || r.W == 0 || r.H == 0 }

// Area tells how many places a rectangle has.
func Area(r api.Rect) int {
	if Empty(r) {
		return 0
	}
	return r.W * r.H
}

// Has tells whether a place is in a rectangle.
func Has(r api.Rect, p api.Point) bool {
	return !Empty(r) && r.X <= p.X && p.X < r.X+r.W && r.Y <= p.Y && p.Y < r.Y+r.H
}

// reaches asks where both ends are ahead of any difference of them, which may be too great for an int.
func reaches(from, to int) bool {
	return api.Low <= from && from < to && to <= api.High+1
}

// Between makes the rectangle from one place up to ahead of another one.
func Between(from, to api.Point) api.Rect {
	if !reaches(from.X, to.X) || !reaches(from.Y, to.Y) {
		return api.Rect{}
	}
	return api.Rect{X: from.X, Y: from.Y, W: to.X - from.X, H: to.Y - from.Y}
}

func first(r api.Rect) api.Point { return api.Point{X: r.X, Y: r.Y} }

func behind(r api.Rect) api.Point { return api.Point{X: r.X + r.W, Y: r.Y + r.H} }

func leastOf(a, b api.Point) api.Point {
	return api.Point{X: min(a.X, b.X), Y: min(a.Y, b.Y)}
}

func mostOf(a, b api.Point) api.Point {
	return api.Point{X: max(a.X, b.X), Y: max(a.Y, b.Y)}
}

// Inter tells what two rectangles have in common.
func Inter(a, b api.Rect) api.Rect {
	if Empty(a) || Empty(b) {
		return api.Rect{}
	}
	return Between(mostOf(first(a), first(b)), leastOf(behind(a), behind(b)))
}

// Hull tells the least rectangle around two.
func Hull(a, b api.Rect) api.Rect {
	switch {
	case Empty(a) && Empty(b):
		return api.Rect{}
	case Empty(a):
		return b
	case Empty(b):
		return a
	}
	return Between(leastOf(first(a), first(b)), mostOf(behind(a), behind(b)))
}

// Inside tells whether all of a rectangle is in another one.
func Inside(a, b api.Rect) bool { return Empty(a) || Inter(a, b) == a }

// slide bounds the way before it is gone, as the start and the way together may be too great for an int.
func slide(start, length, by int) int {
	last := Clamp(api.High + 1 - length) // of length 0 the start must be a place, too
	return start + Span(by, api.Low-start, last-start)
}

// Shift moves a rectangle, as far as the plane goes.
func Shift(r api.Rect, dx, dy int) api.Rect {
	if !Right(r) {
		return api.Rect{}
	}
	r.X = slide(r.X, r.W, dx)
	r.Y = slide(r.Y, r.H, dy)
	return r
}

// Edges is how much is taken off a rectangle.
type Edges struct {
	Left   int
	Top    int
	Right  int
	Bottom int
}

func trim(start, length, ahead, after int) (int, int) {
	ahead = Span(ahead, 0, length)
	length -= ahead
	length -= Span(after, 0, length)
	return Clamp(start + ahead), length // with all taken off, the end of the plane may be passed by one
}

// Inset takes edges off a rectangle.
func Inset(r api.Rect, e Edges) api.Rect {
	if !Right(r) {
		return api.Rect{}
	}
	r.X, r.W = trim(r.X, r.W, e.Left, e.Right)
	r.Y, r.H = trim(r.Y, r.H, e.Top, e.Bottom)
	return r
}

// Keep moves a rectangle into another one, as far as it goes.
func Keep(r, in api.Rect) api.Rect {
	if !Right(r) || !Right(in) {
		return api.Rect{}
	}
	x := Span(r.X, in.X, in.X+in.W-r.W)
	y := Span(r.Y, in.Y, in.Y+in.H-r.H)
	return Shift(r, x-r.X, y-r.Y)
}
