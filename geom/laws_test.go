package geom_test

import (
	"testing"

	"casement/api"
	"casement/geom"
)

// near rectangles: all those of a small part of the plane that begins at a corner of its own.
func near(corner api.Point, side int) []api.Rect {
	var l []api.Rect
	for x := range side {
		for y := range side {
			for w := 1; x+w <= side; w++ {
				for h := 1; y+h <= side; h++ {
					l = append(l, rect(corner.X+x, corner.Y+y, w, h))
				}
			}
		}
	}
	return l
}

// parts of the plane: in its middle, and each in one of its corners.
func parts(side int) []api.Point {
	last := high + 1 - side
	return []api.Point{place(-1, -1), place(low, low), place(last, low), place(low, last), place(last, last)}
}

// TestPlaces holds Inter, Hull and Inside against the places, one by one.
func TestPlaces(t *testing.T) {
	const side = 3
	for _, corner := range parts(side) {
		l := near(corner, side)
		for _, a := range l {
			for _, b := range l {
				inter, hull, inside := geom.Inter(a, b), geom.Hull(a, b), true
				for i := -1; i <= side; i++ {
					for j := -1; j <= side; j++ {
						p := place(corner.X+i, corner.Y+j)
						inA, inB := within(a, p), within(b, p)
						inside = inside && (!inA || inB)
						if geom.Has(inter, p) != (inA && inB) || (inA || inB) && !geom.Has(hull, p) {
							t.Fatalf("%v and %v: Inter %v, Hull %v: the place %v", a, b, inter, hull, p)
						}
					}
				}
				if geom.Inside(a, b) != inside {
					t.Fatalf("Inside(%v, %v) = %v", a, b, !inside)
				}
			}
		}
	}
}

// TestInterOfFar holds the places of Inter against those of both, for all kinds of rectangles.
func TestInterOfFar(t *testing.T) {
	var places []api.Point
	for _, x := range numbers() {
		for _, y := range numbers() {
			places = append(places, place(x, y))
		}
	}
	for _, a := range every() {
		for _, b := range every() {
			inter := geom.Inter(a, b)
			for _, p := range places {
				if geom.Has(inter, p) != (geom.Has(a, p) && geom.Has(b, p)) {
					t.Fatalf("Inter(%v, %v) = %v: the place %v", a, b, inter, p)
				}
			}
		}
	}
}

func TestCommute(t *testing.T) {
	for _, a := range every() {
		for _, b := range every() {
			if geom.Inter(a, b) != geom.Inter(b, a) {
				t.Errorf("Inter of %v and %v does not commute", a, b)
			}
			if geom.Hull(a, b) != geom.Hull(b, a) {
				t.Errorf("Hull of %v and %v does not commute", a, b)
			}
		}
	}
}

func TestAssociate(t *testing.T) {
	for _, a := range right() {
		for _, b := range right() {
			for _, c := range right() {
				if geom.Inter(geom.Inter(a, b), c) != geom.Inter(a, geom.Inter(b, c)) {
					t.Errorf("Inter of %v, %v and %v does not associate", a, b, c)
				}
			}
		}
	}
	for _, a := range solid() {
		for _, b := range solid() {
			for _, c := range solid() {
				if geom.Hull(geom.Hull(a, b), c) != geom.Hull(a, geom.Hull(b, c)) {
					t.Errorf("Hull of %v, %v and %v does not associate", a, b, c)
				}
			}
		}
	}
}

// TestKeptInside: what fits lies inside, and is moved no farther than needed.
func TestKeptInside(t *testing.T) {
	for _, in := range right() {
		for _, r := range right() {
			got := geom.Keep(r, in)
			if got.W != r.W || got.H != r.H || !geom.Right(got) {
				t.Errorf("Keep(%v, %v) = %v", r, in, got)
			}
			if r.W <= in.W && r.H <= in.H && !geom.Inside(got, in) {
				t.Errorf("Keep(%v, %v) = %v is not inside", r, in, got)
			}
			if !geom.Empty(r) && geom.Inside(r, in) && got != r {
				t.Errorf("Keep(%v, %v) = %v: it was inside", r, in, got)
			}
			if geom.Keep(got, in) != got {
				t.Errorf("Keep(%v, %v) = %v, but kept again %v", r, in, got, geom.Keep(got, in))
			}
		}
	}
}

// TestKeptEachWay holds each way of Keep, on all small runs of places, against the nearest of all that lie within.
func TestKeptEachWay(t *testing.T) {
	for _, in := range near(place(0, 0), 4) {
		for x := -6; x <= 6; x++ {
			for w := 1; w <= 6; w++ {
				want := in.X
				for at := in.X; at+w <= in.X+in.W; at++ {
					if max(at-x, x-at) < max(want-x, x-want) {
						want = at
					}
				}
				if got := geom.Keep(rect(x, in.Y, w, in.H), in); got != rect(want, in.Y, w, in.H) {
					t.Errorf("Keep(%v, %v) = %v", rect(x, in.Y, w, in.H), in, got)
				}
				turned := rect(in.Y, in.X, in.H, in.W)
				if got := geom.Keep(rect(in.Y, x, in.H, w), turned); got != rect(in.Y, want, in.H, w) {
					t.Errorf("Keep(%v, %v) = %v", rect(in.Y, x, in.H, w), turned, got)
				}
			}
		}
	}
}

// TestInsetTwice: one edge behind the other takes off what their sum does, as long as something is left.
func TestInsetTwice(t *testing.T) {
	offs := []int{0, 1, 2, 3, 7, high, high + 1}
	for _, r := range right() {
		for _, left := range offs {
			for _, top := range offs {
				for _, more := range offs {
					sum := geom.Inset(r, geom.Edges{Left: left + more, Top: top + more})
					twice := geom.Inset(geom.Inset(r, geom.Edges{Left: left, Top: top}), geom.Edges{Left: more, Top: more})
					if !geom.Empty(sum) && sum != twice {
						t.Errorf("Inset of %v by %d %d and by %d = %v, by their sums %v", r, left, top, more, twice, sum)
					}
				}
			}
		}
	}
}
