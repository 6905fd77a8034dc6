package size_test

import (
	"math"
	"testing"

	"casement/api"
	"casement/prop"
	"casement/size"
)

const top = size.Top

// plain hints are those of a client that says nothing.
var plain = api.Hints{MinW: 1, MinH: 1, IncW: 1, IncH: 1}

// far numbers are outside of all that a length may be; sums and products of them go round.
func far() []int {
	return []int{math.MinInt, math.MinInt + 1, math.MinInt32, -top - 1, -top, -1, top + 1, 2 * top, 1 << 16, math.MaxInt32, 1 << 32, 1<<32 + 1, math.MaxInt - 1, math.MaxInt}
}

// but makes hints that are others in some things.
func but(h api.Hints, changes ...func(h *api.Hints)) api.Hints {
	for _, change := range changes {
		change(&h)
	}
	return h
}

func minimum(w, t int) func(*api.Hints) { return func(h *api.Hints) { h.MinW, h.MinH = w, t } }

func maximum(w, t int) func(*api.Hints) { return func(h *api.Hints) { h.MaxW, h.MaxH = w, t } }

func base(w, t int) func(*api.Hints) { return func(h *api.Hints) { h.BaseW, h.BaseH = w, t } }

func inc(w, t int) func(*api.Hints) { return func(h *api.Hints) { h.IncW, h.IncH = w, t } }

func aspect(lowX, lowY, highX, highY int) func(*api.Hints) {
	return func(h *api.Hints) { h.LowX, h.LowY, h.HighX, h.HighY = lowX, lowY, highX, highY }
}

// fields are all of hints, one by one.
func fields(h *api.Hints) []*int {
	return []*int{&h.MinW, &h.MinH, &h.MaxW, &h.MaxH, &h.BaseW, &h.BaseH, &h.IncW, &h.IncH, &h.LowX, &h.LowY, &h.HighX, &h.HighY}
}

// telling writes numbers by their places: the first one is first, each other one is its place and 100.
func telling(first, long int) string {
	var l []int
	for i := range long {
		l = append(l, 100+i)
	}
	if long > 0 {
		l[0] = first
	}
	return prop.Data(l...)
}

func TestTop(t *testing.T) {
	if top != 65535 {
		t.Error(top)
	}
}

func TestDecode(t *testing.T) {
	bases := api.Hints{MinW: 115, MinH: 116, BaseW: 115, BaseH: 116, IncW: 1, IncH: 1}
	mins := api.Hints{MinW: 105, MinH: 106, BaseW: 105, BaseH: 106, IncW: 1, IncH: 1}
	both := api.Hints{MinW: 105, MinH: 106, BaseW: 115, BaseH: 116, IncW: 1, IncH: 1}
	ratio := aspect(111, 112, 113, 114)
	for _, c := range []struct {
		first int
		want  api.Hints
	}{
		{0, plain}, {1 | 2 | 4 | 8 | 512 | 1024, plain}, {-1 - 16 - 32 - 64 - 128 - 256, plain}, {math.MinInt32, plain},
		{256, bases}, {16, mins}, {16 | 256, both},
		{32, but(plain, maximum(107, 108))}, {64, but(plain, inc(109, 110))}, {128, but(plain, ratio)},
		{32 | 256, but(bases, maximum(107, 108))}, {64 | 16, but(mins, inc(109, 110))}, {128 | 16 | 256, but(both, ratio)},
		{1 | 32 | 64, but(plain, maximum(107, 108), inc(109, 110))},
		{16 | 32 | 64 | 128 | 256, but(both, maximum(107, 108), inc(109, 110), ratio)},
		{-1, but(both, maximum(107, 108), inc(109, 110), ratio)},
	} {
		for _, long := range []int{17, 18, 30, 64} {
			if got := size.Decode(telling(c.first, long)); got != c.want {
				t.Errorf("Decode of %d and %d numbers = %+v, not %+v", c.first, long-1, got, c.want)
			}
		}
	}
}

// TestDecodeTooFew: what is too short, or is no numbers, tells nothing, whatever its first number says.
func TestDecodeTooFew(t *testing.T) {
	for _, first := range []int{0, 16, 32, 64, 128, 256, -1} {
		for long := range 17 {
			if got := size.Decode(telling(first, long)); got != plain {
				t.Errorf("Decode of %d, %d numbers = %+v", first, long, got)
			}
		}
		for _, more := range []string{"a", "ab", "abc"} {
			for _, long := range []int{0, 1, 16, 17, 18, 40} {
				if got := size.Decode(telling(first, long) + more); got != plain {
					t.Errorf("Decode of %d, %d numbers and %q = %+v", first, long, more, got)
				}
			}
		}
	}
	for _, data := range []string{"", "abc", "abcd", "\x00", "\xff\xff\xff\xff"} {
		if got := size.Decode(data); got != plain {
			t.Errorf("Decode(%q) = %+v", data, got)
		}
	}
}

// TestDecodeAsItIs: Decode tells numbers that no normal hints have, too, with their signs.
func TestDecodeAsItIs(t *testing.T) {
	l := make([]int, 17)
	for i := range l {
		l[i] = -i
	}
	l[0], l[7], l[8], l[13] = -1, math.MinInt32, math.MaxInt32, 0
	want := api.Hints{MinW: -5, MinH: -6, MaxW: math.MinInt32, MaxH: math.MaxInt32, BaseW: -15, BaseH: -16, IncW: -9, IncH: -10, LowX: -11, LowY: -12, HighX: 0, HighY: -14}
	if got := size.Decode(prop.Data(l...)); got != want {
		t.Errorf("Decode = %+v, not %+v", got, want)
	}
}

type pair struct{ h, want api.Hints }

// spanned are hints with each of their lengths out of bounds, and at its bounds.
func spanned() []pair {
	l := []pair{
		{api.Hints{}, plain}, {plain, plain},
		{but(plain, minimum(0, 5)), but(plain, minimum(1, 5))}, {but(plain, minimum(5, 0)), but(plain, minimum(5, 1))},
		{but(plain, minimum(top, top)), but(plain, minimum(top, top))}, {but(plain, minimum(top+1, 3)), but(plain, minimum(top, 3))},
		{but(plain, base(top, 2)), but(plain, base(top, 2))}, {but(plain, base(2, top)), but(plain, base(2, top))}, {but(plain, base(-1, -1)), plain},
		{but(plain, inc(top, 3)), but(plain, inc(top, 3))}, {but(plain, inc(4, top)), but(plain, inc(4, top))}, {but(plain, inc(0, 0)), plain},
		{but(plain, maximum(1, top)), but(plain, maximum(1, top))}, {but(plain, maximum(top, 1)), but(plain, maximum(top, 1))}, {but(plain, maximum(-1, 9)), but(plain, maximum(0, 9))},
	}
	for _, n := range far() {
		to1, to0 := 1, 0
		if n > 0 {
			to1, to0 = top, top
		}
		l = append(l,
			pair{but(plain, minimum(n, 3)), but(plain, minimum(to1, 3))}, pair{but(plain, minimum(3, n)), but(plain, minimum(3, to1))},
			pair{but(plain, maximum(n, 3)), but(plain, maximum(to0, 3))}, pair{but(plain, maximum(3, n)), but(plain, maximum(3, to0))},
			pair{but(plain, base(n, 3)), but(plain, base(to0, 3))}, pair{but(plain, base(3, n)), but(plain, base(3, to0))},
			pair{but(plain, inc(n, 3)), but(plain, inc(to1, 3))}, pair{but(plain, inc(3, n)), but(plain, inc(3, to1))},
		)
	}
	return l
}

// above are hints the greatest lengths of which are below the least ones, that are spanned, too.
func above() []pair {
	big := api.Hints{MinW: 50, MinH: 40, IncW: 1, IncH: 1}
	return []pair{
		{but(big, maximum(20, 30)), but(big, maximum(50, 40))}, {but(big, maximum(50, 40)), but(big, maximum(50, 40))},
		{but(big, maximum(51, 39)), but(big, maximum(51, 40))}, {but(big, maximum(0, -5)), big}, {but(big, maximum(1, 0)), but(big, maximum(50, 0))},
		{but(big, maximum(0, 1)), but(big, maximum(0, 40))}, {but(big, maximum(math.MinInt, math.MaxInt)), but(big, maximum(0, top))},
		{api.Hints{MinW: math.MaxInt, MaxW: 5, MinH: -9, MaxH: 1, IncW: 1, IncH: 1}, api.Hints{MinW: top, MaxW: top, MinH: 1, MaxH: 1, IncW: 1, IncH: 1}},
	}
}

// ratios are hints the aspect of which stays, or goes.
func ratios() []pair {
	l := []pair{{but(plain, aspect(1, 2, 1, 2)), but(plain, aspect(1, 2, 1, 2))}}
	for _, a := range [][4]int{
		{1, 1, 1, 1}, {2, 1, 4, 2}, {4, 2, 2, 1}, {1, 3, 3, 1}, {top, top, 1, 1}, {1, top, top, 1}, {top - 1, top, top, top}, {top, top, top, top - 1},
		{top - 2, top - 1, top - 1, top}, {top, 1, top, 1}, {1, top, 1, top},
	} {
		l = append(l, pair{but(plain, aspect(a[0], a[1], a[2], a[3])), but(plain, aspect(a[0], a[1], a[2], a[3]))})
	}
	for _, a := range [][4]int{
		{2, 1, 1, 1}, {1, 1, 1, 2}, {3, 1, 1, 3}, {top, top - 1, top, top}, {top - 1, top, top - 2, top - 1}, {top, 1, 1, top}, {3, 2, 4, 3},
		{0, 1, 1, 1}, {1, 0, 1, 1}, {1, 1, 0, 1}, {1, 1, 1, 0}, {0, 0, 1, 1}, {1, 1, 0, 0}, {-1, -1, 1, 1}, {-2, 1, -1, 1}, {-1, -1, -1, -1}, {1, 2, -1, -2},
	} {
		l = append(l, pair{but(plain, aspect(a[0], a[1], a[2], a[3])), plain})
	}
	for _, n := range far() {
		for at := range 4 {
			a := [4]int{1, 1, 1, 1}
			a[at] = n
			l = append(l, pair{but(plain, aspect(a[0], a[1], a[2], a[3])), plain})
		}
		l = append(l, pair{but(plain, aspect(n, n, n, n)), plain}, pair{but(plain, aspect(1, n, n, 1)), plain})
	}
	return l
}

// none are hints by which no size would be good: without their aspect, or without that, their increments and their bases.
func none() []pair {
	few := api.Hints{MinW: 10, MaxW: 13, MinH: 20, MaxH: 23, IncW: 1, IncH: 1}
	stepped := api.Hints{MinW: 10, MaxW: 16, MinH: 10, MaxH: 19, BaseW: 4, BaseH: 3, IncW: 5, IncH: 6} // 14, and 15
	square := aspect(1, 1, 1, 1)
	return []pair{
		{but(few, square), few}, {but(few, aspect(14, 20, top, 1)), few}, {but(few, aspect(1, top, 10, 24)), few}, {but(few, aspect(13, 20, 13, 20)), but(few, aspect(13, 20, 13, 20))}, {but(few, aspect(10, 23, 10, 23)), but(few, aspect(10, 23, 10, 23))},
		{but(stepped, square), stepped}, {but(stepped, aspect(14, 15, 14, 15)), but(stepped, aspect(14, 15, 14, 15))}, {but(stepped, aspect(14, 16, 14, 16)), stepped}, {but(stepped, aspect(13, 15, 13, 15)), stepped},
		// one way alone has none: both lose what they are stepped by
		{but(stepped, maximum(13, 19)), api.Hints{MinW: 10, MaxW: 13, MinH: 10, MaxH: 19, IncW: 1, IncH: 1}}, {but(stepped, maximum(16, 14)), api.Hints{MinW: 10, MaxW: 16, MinH: 10, MaxH: 14, IncW: 1, IncH: 1}},
		{but(stepped, maximum(14, 15)), but(stepped, maximum(14, 15))}, {but(stepped, maximum(13, 19), square), api.Hints{MinW: 10, MaxW: 13, MinH: 10, MaxH: 19, IncW: 1, IncH: 1}},
		{but(few, base(14, 0)), few}, {but(few, base(0, 24)), few}, {but(few, base(13, 23)), but(few, base(13, 23))}, {but(few, base(top, top)), few}, {but(few, base(14, 0), aspect(12, 20, 13, 20)), few},
		{but(plain, minimum(top, 1), inc(2, 1)), but(plain, minimum(top, 1))}, {but(plain, minimum(top, 1), inc(5, 1)), but(plain, minimum(top, 1), inc(5, 1))}, {but(plain, minimum(1, top), inc(7, 4)), but(plain, minimum(1, top))},
		{but(plain, inc(1, top), maximum(0, top-1)), but(plain, maximum(0, top-1))}, {but(plain, inc(top, 1), maximum(top-1, 0)), but(plain, maximum(top-1, 0))},
		{but(plain, base(1, 0), inc(top, top)), but(plain, base(1, 0), inc(top, top))}, {but(plain, base(1, 0), inc(top, top), square), but(plain, base(1, 0), inc(top, top))},
		{but(plain, minimum(top, 1), aspect(1, 1, 2, 1)), but(plain, minimum(top, 1), aspect(1, 1, 2, 1))}, {but(plain, maximum(0, 1), aspect(top, 1, top, 1)), but(plain, maximum(0, 1), aspect(top, 1, top, 1))},
		{but(plain, minimum(1, 2), aspect(top, 1, top, 1)), but(plain, minimum(1, 2))}, {but(plain, minimum(2, 1), aspect(1, top, 1, top)), but(plain, minimum(2, 1))},
	}
}

func TestNormal(t *testing.T) {
	for _, l := range [][]pair{spanned(), above(), ratios(), none()} {
		for _, c := range l {
			if got := size.Normal(c.h); got != c.want {
				t.Errorf("Normal(%+v) = %+v, not %+v", c.h, got, c.want)
			}
		}
	}
}

type fit struct{ w, t, toW, toT int }

func TestFit(t *testing.T) {
	stepped := api.Hints{MinW: 10, MinH: 10, BaseW: 4, BaseH: 4, IncW: 5, IncH: 5}
	wide := but(plain, aspect(2, 1, 2, 1))
	about := but(plain, aspect(1, 2, 3, 1), maximum(40, 40))
	high := math.MaxInt
	for _, c := range []struct {
		h api.Hints
		l []fit
	}{
		{api.Hints{}, []fit{{30, 20, 30, 20}, {0, 0, 1, 1}, {-4, 7, 1, 7}, {7, -4, 7, 1}, {top, top, top, top}, {top + 1, high, top, top}, {math.MinInt, math.MinInt, 1, 1}}},
		{stepped, []fit{{30, 3, 29, 14}, {29, 14, 29, 14}, {28, 13, 24, 14}, {14, 14, 14, 14}, {13, 15, 14, 14}, {0, 19, 14, 19}, {high, top, 65534, 65534}, {65534, 65533, 65534, 65529}}},
		{but(stepped, maximum(33, 14)), []fit{{40, 40, 29, 14}, {33, 3, 29, 14}, {high, high, 29, 14}, {-1, -1, 14, 14}}},
		{but(stepped, base(20, 30)), []fit{{10, 10, 20, 30}, {19, 34, 20, 30}, {24, 35, 20, 35}, {25, 36, 25, 35}}},
		{but(plain, aspect(1, 1, 1, 1)), []fit{{30, 20, 30, 30}, {20, 30, 20, 20}, {0, 0, 1, 1}, {high, 0, top, top}}},
		{but(stepped, aspect(1, 1, 1, 1)), []fit{{30, 20, 29, 29}, {13, 99, 14, 14}}},
		{wide, []fit{{31, 9, 30, 15}, {1, 9, 2, 1}, {0, 0, 2, 1}, {top, top, 65534, 32767}}},
		{but(plain, aspect(1, 2, 1, 2)), []fit{{31, 9, 31, 62}, {high, 9, 32767, 65534}, {32768, 0, 32767, 65534}}},
		{about, []fit{{30, 20, 30, 20}, {30, 9, 30, 10}, {31, 9, 31, 11}, {30, 99, 30, 40}, {7, 99, 7, 14}, {7, 0, 7, 3}, {99, 0, 40, 14}, {0, 99, 1, 2}}},
		{but(about, minimum(1, 38)), []fit{{18, 0, 19, 38}, {19, 50, 19, 38}, {20, 50, 20, 40}, {40, 1, 40, 38}}},               // the least good width is above the least width
		{but(plain, aspect(3, 2, 3, 2), inc(2, 5)), []fit{{29, 0, 30, 20}, {59, 0, 30, 20}, {60, 99, 60, 40}, {61, 1, 60, 40}}}, // each third height, and each fifteenth width alone
		{but(plain, aspect(top, top-1, top, top-1), maximum(0, top)), []fit{{0, 0, top, top - 1}, {top - 1, 7, top, top - 1}}},  // just one size
		{but(plain, aspect(1, 1, 1, 1), maximum(20, 0)), []fit{{30, 5, 20, 20}}},
		{api.Hints{MinW: 50, MaxW: 20, MinH: 7, MaxH: 7, BaseH: 9, LowX: 3, LowY: 1, HighX: 2, HighY: 1}, []fit{{9, 9, 50, 7}, {60, 0, 50, 7}}},
	} {
		for _, x := range c.l {
			if w, h := size.Fit(c.h, x.w, x.t); w != x.toW || h != x.toT {
				t.Errorf("Fit(%+v, %d, %d) = %d %d, not %d %d", c.h, x.w, x.t, w, h, x.toW, x.toT)
			}
		}
	}
}

func TestGood(t *testing.T) {
	stepped := api.Hints{MinW: 10, MaxW: 29, MinH: 11, MaxH: 27, BaseW: 4, BaseH: 3, IncW: 5, IncH: 6}
	ratio := but(plain, aspect(1, 2, 3, 1))
	for _, c := range []struct {
		h         api.Hints
		good, bad [][2]int
	}{
		{plain, [][2]int{{1, 1}, {1, top}, {top, 1}, {top, top}, {640, 480}}, [][2]int{{0, 1}, {1, 0}, {-1, 5}, {5, -1}, {top + 1, 1}, {1, top + 1}}},
		{stepped, [][2]int{{14, 15}, {29, 27}, {14, 27}, {29, 15}, {19, 21}}, [][2]int{{9, 15}, {14, 9}, {10, 15}, {14, 11}, {15, 15}, {14, 16}, {34, 15}, {14, 33}, {4, 15}, {14, 3}, {28, 27}, {29, 26}, {0, 0}}},
		{but(plain, base(20, 30)), [][2]int{{20, 30}, {21, 31}}, [][2]int{{19, 30}, {20, 29}, {1, 1}}},
		{but(plain, base(20, 30), inc(7, 9)), [][2]int{{20, 30}, {27, 39}}, [][2]int{{13, 30}, {20, 21}, {6, 30}, {26, 30}}},
		{ratio, [][2]int{{1, 1}, {3, 1}, {1, 2}, {10, 20}, {30, 10}, {29, 10}, {10, 19}, {top, top}, {top, 21845}, {32767, 65534}}, [][2]int{{4, 1}, {1, 3}, {31, 10}, {10, 21}, {top, 21844}, {32767, top}, {0, 0}}},
		{but(plain, aspect(top-1, top, top-1, top)), [][2]int{{top - 1, top}}, [][2]int{{top, top}, {top - 1, top - 1}, {1, 1}, {top - 2, top - 1}}},
		{but(plain, minimum(top, top)), [][2]int{{top, top}}, [][2]int{{top - 1, top}, {top, top - 1}, {top + 1, top}}},
	} {
		for _, x := range c.good {
			if !size.Good(c.h, x[0], x[1]) {
				t.Errorf("Good(%+v, %d, %d) = false", c.h, x[0], x[1])
			}
		}
		for _, x := range c.bad {
			if size.Good(c.h, x[0], x[1]) {
				t.Errorf("Good(%+v, %d, %d) = true", c.h, x[0], x[1])
			}
		}
	}
}

// TestGoodOfFarSizes: sizes the sums and products of which go round are good by none.
func TestGoodOfFarSizes(t *testing.T) {
	for _, h := range []api.Hints{plain, but(plain, aspect(1, 1, 1, 1)), but(plain, aspect(1, top, top, 1)), but(plain, base(top, top)), but(plain, inc(top, 2))} {
		for _, n := range far() {
			for _, x := range [][2]int{{n, n}, {n, 1}, {1, n}, {n, top}, {top, n}, {n, -n}} {
				if size.Good(h, x[0], x[1]) {
					t.Errorf("Good(%+v, %d, %d) = true", h, x[0], x[1])
				}
			}
		}
	}
}

// TestGoodOfOthers: by hints that are not normal no size is good, though it be by those that Normal makes of them.
func TestGoodOfOthers(t *testing.T) {
	h := but(api.Hints{MinW: 10, MaxW: 20, MinH: 10, MaxH: 20, BaseW: 10, BaseH: 10, IncW: 1, IncH: 1}, aspect(1, 1, 1, 1))
	if !size.Good(h, 12, 12) {
		t.Fatal("the hints are not normal")
	}
	wrong := append(far(), 0)
	for at := range fields(&h) {
		for _, n := range wrong {
			x := h
			*fields(&x)[at] = n
			if n == 0 && at >= 2 && at <= 5 { // no bound, and no base, are normal
				continue
			}
			if size.Good(x, 12, 12) {
				t.Errorf("Good(%+v, 12, 12) = true", x)
			}
		}
	}
	for _, x := range []api.Hints{
		{}, but(h, maximum(9, 20)), but(h, maximum(20, 9)), but(h, maximum(1, 1)), but(h, minimum(21, 12)), but(h, minimum(12, 21)),
		but(h, aspect(2, 1, 1, 1)), but(h, aspect(1, 1, 1, 2)), but(h, aspect(13, 12, 12, 12)), but(h, aspect(12, 12, 12, 13)),
	} {
		for w := range 25 {
			for tall := range 25 {
				if size.Good(x, w, tall) {
					t.Errorf("Good(%+v, %d, %d) = true", x, w, tall)
				}
			}
		}
	}
}

// TestGoodOfNone: hints may be normal, and no size good by them; only Normal makes others of them.
func TestGoodOfNone(t *testing.T) {
	for _, h := range []api.Hints{
		but(plain, maximum(13, 13), base(14, 1)), but(plain, maximum(13, 13), base(1, 14)), but(plain, maximum(8, 8), minimum(7, 7), inc(5, 5)),
		{MinW: 10, MaxW: 12, MinH: 20, MaxH: 22, IncW: 1, IncH: 1, LowX: 1, LowY: 1, HighX: 1, HighY: 1},
	} {
		for w := range 30 {
			for tall := range 30 {
				if size.Good(h, w, tall) {
					t.Errorf("Good(%+v, %d, %d) = true", h, w, tall)
				}
			}
		}
		w, tall := size.Fit(h, 1, 1)
		if !size.Good(size.Normal(h), w, tall) {
			t.Errorf("Fit(%+v, 1, 1) = %d %d", h, w, tall)
		}
	}
}
