package size

// side is lengths that a size may have, one way: base and whole numbers of inc, from least to most. There may be none.
type side struct{ least, most, base, inc int }

// newSide lifts least to base, so that a number from least on is never below base.
func newSide(least, most, base, inc int) side {
	if most == 0 {
		most = Top
	}
	return side{least: max(least, base), most: most, base: base, inc: inc}
}

// quotient is of whole numbers, as a float64 needn't be what two of them make.
type quotient struct{ above, below int }

func (q quotient) up() int { return (q.above + q.below - 1) / q.below }

func (q quotient) down() int { return q.above / q.below }

// within leaves out what is not from one quotient to another one.
func (s side) within(from, to quotient) side {
	s.least = max(s.least, from.up())
	s.most = min(s.most, to.down())
	return s
}

func (s side) has(n int) bool {
	return s.least <= n && n <= s.most && (n-s.base)%s.inc == 0
}

// down tells the greatest one that is at most n.
func (s side) down(n int) (int, bool) {
	n = min(n, s.most)
	n -= max(n-s.base, 0) % s.inc
	return n, n >= s.least
}

// up tells the least one that is at least n.
func (s side) up(n int) (int, bool) {
	n = max(n, s.least)
	over := (n - s.base) % s.inc
	if over > 0 {
		n += s.inc - over
	}
	return n, n <= s.most
}

func (s side) some() bool {
	_, ok := s.up(s.least)
	return ok
}

// near tells the greatest one that is at most n, or, if there is none, the least one.
func (s side) near(n int) int {
	v, ok := s.down(n)
	if !ok {
		v, _ = s.up(s.least)
	}
	return v
}
