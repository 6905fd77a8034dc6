package share_test

import (
	"math"
	"slices"
	"testing"

	"casement/api"
	"casement/share"
)

const (
	one     = share.One
	most    = api.MaxWeight
	longest = 65536
)

// marked stands in spare room: a call that writes there is found out.
const marked = -77

func list(l ...int) []int { return l }

// times makes a list of the same number.
func times(n, v int) []int {
	var l []int
	for range n {
		l = append(l, v)
	}
	return l
}

// with puts a number at one place of a list.
func with(l []int, at, v int) []int {
	l = slices.Clone(l)
	l[at] = v
	return l
}

// noWeights are numbers that no weight has.
func noWeights() []int {
	return list(0, -1, -one, most+1, most*2, -most, math.MinInt32, math.MaxInt32, math.MinInt, math.MinInt+1, math.MaxInt-1, math.MaxInt)
}

// wrong lists of weights, each with the error that is its first.
type wrong struct {
	w    []int
	want api.Errno
}

func wrongLists() []wrong {
	l := []wrong{
		{nil, api.ErrArg}, {list(), api.ErrArg}, {make([]int, 0, 5), api.ErrArg},
		{times(65, 1), api.ErrLimit}, {times(65, most), api.ErrLimit}, {times(1000, one), api.ErrLimit}, {times(64, 1), api.OK},
	}
	for _, n := range noWeights() {
		l = append(l, wrong{list(n), api.ErrArg}, wrong{list(n, 1), api.ErrArg}, wrong{list(1, n), api.ErrArg}, wrong{list(1, n, 1), api.ErrArg})
		l = append(l, wrong{with(times(64, 1), 0, n), api.ErrArg}, wrong{with(times(64, 1), 63, n), api.ErrArg}, wrong{times(64, n), api.ErrArg})
		// that there are too many is told ahead of what they are
		l = append(l, wrong{with(times(65, 1), 0, n), api.ErrLimit}, wrong{with(times(65, 1), 64, n), api.ErrLimit}, wrong{times(65, n), api.ErrLimit})
	}
	return l
}

func TestWeight(t *testing.T) {
	nought := math.Copysign(0, -1)
	tiny := math.SmallestNonzeroFloat64
	for _, c := range []struct {
		f    float64
		want int
	}{
		{math.NaN(), one}, {-math.NaN(), one}, {math.Float64frombits(0x7ff0000000000001), one}, {math.Float64frombits(0xffffffffffffffff), one},
		{math.Inf(1), most}, {math.MaxFloat64, most}, {1e300, most}, {1 << 63, most}, {1 << 62, most}, {1 << 31, most}, {17, most}, {math.Nextafter(16, 17), most}, {16, most},
		{math.Nextafter(16, 15), most - 1}, {15.5, 15*one + one/2}, {15.99999, 1048575},
		{0, 1}, {nought, 1}, {-tiny, 1}, {-1.0 / one, 1}, {-1, 1}, {-3, 1}, {-16, 1}, {-1e300, 1}, {-math.MaxFloat64, 1}, {-(1 << 63), 1}, {math.Inf(-1), 1},
		{tiny, 1}, {1e-300, 1}, {0x1p-1022, 1}, {0.5 / one, 1}, {math.Nextafter(1.0/one, 0), 1}, {1.0 / one, 1}, {1.5 / one, 1}, {math.Nextafter(2.0/one, 0), 1}, {2.0 / one, 2},
		{0.5, 32768}, {0.25, 16384}, {1, 65536}, {1.5, 98304}, {2, 131072}, {3, 196608}, {10, 655360},
		{math.Nextafter(1, 0), 65535}, {math.Nextafter(1, 2), 65536}, {0.1, 6553}, {0.3, 19660}, {0.7, 45875}, {1.0 / 3, 21845}, {2.0 / 3, 43690}, {math.Pi, 205887},
	} {
		if got := share.Weight(c.f); got != c.want {
			t.Errorf("Weight(%v) = %d, not %d", c.f, got, c.want)
		}
	}
}

func TestRatio(t *testing.T) {
	for _, c := range []struct {
		n    int
		want float64
	}{
		{1, 1.0 / 65536}, {2, 2.0 / 65536}, {3, 3.0 / 65536}, {32768, 0.5}, {65535, 65535.0 / 65536}, {65536, 1}, {65537, 65537.0 / 65536}, {98304, 1.5}, {131072, 2},
		{most - 1, 16 - 1.0/65536}, {most, 16}, {most + 1, 16}, {2 * most, 16}, {math.MaxInt32, 16}, {math.MaxInt, 16},
		{0, 1.0 / 65536}, {-1, 1.0 / 65536}, {-65536, 1.0 / 65536}, {math.MinInt32, 1.0 / 65536}, {math.MinInt, 1.0 / 65536},
	} {
		if got := share.Ratio(c.n); got != c.want {
			t.Errorf("Ratio(%d) = %v, not %v", c.n, got, c.want)
		}
	}
}

func TestCheck(t *testing.T) {
	for _, w := range [][]int{list(1), list(most), list(one), list(1, most), list(3, 1, 2), times(63, one), times(64, 1), times(64, most)} {
		if got := share.Check(w); got != api.OK {
			t.Errorf("Check(%v) = %d", w, got)
		}
	}
	for _, c := range wrongLists() {
		if got := share.Check(c.w); got != c.want {
			t.Errorf("Check(%v) = %d, not %d", c.w, got, c.want)
		}
	}
	for n := -3; n <= most+3; n++ {
		if got := share.Check(list(n)); (got == api.OK) != (n >= 1 && n <= most) {
			t.Fatalf("Check of the one weight %d = %d", n, got)
		}
	}
}

func TestGrow(t *testing.T) {
	tiny := math.SmallestNonzeroFloat64
	for _, c := range []struct {
		w    []int
		at   int
		by   float64
		want []int
	}{
		{list(one, 5), 0, 1, list(2*one, 5)}, {list(one, 5), 1, 1, list(one, one+5)}, {list(one, one, one), 1, -0.5, list(one, one/2, one)}, {list(7, 8, 9), 2, 0.25, list(7, 8, one/4+9)},
		{list(one), 0, math.NaN(), list(one)}, {list(3), 0, math.NaN(), list(3)}, {list(most, 1), 0, math.NaN(), list(most, 1)}, {list(most, 1), 1, math.NaN(), list(most, 1)},
		{list(one), 0, math.Inf(-1), list(1)}, {list(one), 0, math.Inf(1), list(most)}, {list(1, 2), 1, math.Inf(1), list(1, most)}, {list(most, 2), 0, math.Inf(-1), list(1, 2)},
		{list(1, 2), 0, math.MaxFloat64, list(most, 2)}, {list(1, 2), 1, -math.MaxFloat64, list(1, 1)}, {list(3), 0, 16, list(most)}, {list(3), 0, -16, list(1)}, {list(most), 0, -1e9, list(1)},
		{list(1), 0, 0, list(1)}, {list(1), 0, math.Copysign(0, -1), list(1)}, {list(most), 0, 0, list(most)}, {list(most), 0, tiny, list(most)}, {list(one), 0, -tiny, list(one)},
		// up to just ahead of the bounds, to them, and over them
		{list(one), 0, -1, list(1)}, {list(one), 0, -1 + 1.0/one, list(1)}, {list(one), 0, -1 + 2.0/one, list(2)}, {list(one), 0, 15, list(most)}, {list(one), 0, 15 - 1.0/one, list(most - 1)}, {list(one), 0, 15 + 1.0/one, list(most)},
		// of a number that lies between two weights, the lesser one
		{list(one), 0, 0.5 / one, list(one)}, {list(one), 0, -0.5 / one, list(one - 1)}, {list(2), 0, -0.5 / one, list(1)}, {list(most), 0, -0.5 / one, list(most - 1)}, {list(one), 0, 0.1, list(72089)}, {list(one), 0, -0.1, list(58982)},
		// a sum of float64 is the nearest that there is
		{list(one), 0, -1e-17, list(one)}, {list(one), 0, -0x1p-53, list(one - 1)}, {list(one), 0, -0x1p-54, list(one)}, {list(most), 0, -0x1p-50, list(most)}, {list(most), 0, -0x1p-49, list(most - 1)},
		{list(1), 0, 1.0/one - 0x1p-69, list(2)}, {list(1), 0, 1.0/one - 0x1p-68, list(1)}, {list(1), 0, 1.0 / one, list(2)},
	} {
		got, e := share.Grow(c.w, c.at, c.by)
		if e != api.OK || !slices.Equal(got, c.want) {
			t.Errorf("Grow(%v, %d, %v) = %v, %d, not %v", c.w, c.at, c.by, got, e, c.want)
		}
	}
	w := times(64, 3)
	for at := range w {
		if got, e := share.Grow(w, at, 2); e != api.OK || !slices.Equal(got, with(w, at, 2*one+3)) {
			t.Errorf("Grow of 64, at %d = %v, %d", at, got, e)
		}
	}
}

// TestGrowSums holds Grow against Weight of the sum, on many weights and numbers.
func TestGrowSums(t *testing.T) {
	bys := []float64{0, 1, -1, 0.1, -0.1, 1.0 / 3, -1.0 / 3, 1.0 / one, -1.0 / one, 0.5 / one, -0.5 / one, 15, -15, 16, -16, 1e300, -1e300, 1e-300, -1e-300, math.Inf(1), math.Inf(-1), 0x1p-53, -0x1p-53}
	for n := 1; n <= most; n += 97 {
		for _, by := range bys {
			want := share.Weight(share.Ratio(n) + by)
			if got, e := share.Grow(list(5, n), 1, by); e != api.OK || !slices.Equal(got, list(5, want)) {
				t.Fatalf("Grow(5 %d, 1, %v) = %v, %d, not 5 %d", n, by, got, e, want)
			}
		}
		if got, e := share.Grow(list(n, 5), 0, math.NaN()); e != api.OK || !slices.Equal(got, list(n, 5)) {
			t.Fatalf("Grow(%d 5, 0, NaN) = %v, %d", n, got, e)
		}
	}
}

func TestGrowRefuses(t *testing.T) {
	for _, by := range []float64{0, 1, math.NaN(), math.Inf(1)} {
		for _, at := range list(-1, -2, 3, 4, 64, math.MinInt32, math.MaxInt32, math.MinInt, math.MaxInt) {
			w := append(make([]int, 0, 100), 4, 5, 6) // spare room has no places
			if got, e := share.Grow(w, at, by); len(got) != 0 || e != api.ErrArg {
				t.Errorf("Grow(%v, %d, %v) = %v, %d", w, at, by, got, e)
			}
		}
		for _, at := range list(0, -1, 1, 64, 65, math.MaxInt) {
			for _, c := range wrongLists() {
				want := c.want
				if want == api.OK && (at < 0 || at > 63) {
					want = api.ErrArg
				}
				if got, e := share.Grow(c.w, at, by); e != want || e != api.OK && len(got) != 0 {
					t.Errorf("Grow(%v, %d, %v) = %v, %d, not %d", c.w, at, by, got, e, want)
				}
			}
		}
	}
	if got, e := share.Grow(list(9), 1, 0); len(got) != 0 || e != api.ErrArg {
		t.Errorf("Grow(9, 1, 0) = %v, %d", got, e)
	}
	if got, e := share.Grow(times(64, 9), 64, 0); len(got) != 0 || e != api.ErrArg {
		t.Errorf("Grow of 64, at 64 = %v, %d", got, e)
	}
}

func TestSplit(t *testing.T) {
	for _, c := range []struct {
		total int
		w     []int
		want  []int
	}{
		{10, list(1, 1, 1), list(4, 3, 3)}, {7, list(2, 1), list(5, 2)}, {100, list(1, 2, 4), list(14, 29, 57)}, {9, list(1, 2), list(3, 6)}, {12, list(1, 2, 3), list(2, 4, 6)},
		{0, list(1), list(0)}, {0, list(3, 1, most), list(0, 0, 0)}, {1, list(1), list(1)}, {65536, list(1), list(65536)}, {65536, list(most), list(65536)}, {65535, list(one), list(65535)}, {5, list(most), list(5)},
		// what is left over goes to those of which most is left
		{10, list(3, 3, 1), list(4, 4, 2)}, {11, list(1, 5, 4), list(1, 6, 4)}, {3, list(1, 1, 2), list(1, 1, 1)}, {1, list(1, 2, 1), list(0, 1, 0)}, {1, list(1, 1, 2), list(0, 0, 1)}, {2, list(3, 2, 4), list(1, 0, 1)}, {100, list(4, 2, 1), list(57, 29, 14)},
		// as much of each, or of some: the earlier ones
		{1, list(1, 1), list(1, 0)}, {1, list(1, 1, 1), list(1, 0, 0)}, {2, list(1, 1, 1), list(1, 1, 0)}, {11, list(1, 1, 1), list(4, 4, 3)}, {5, list(7, 7), list(3, 2)}, {5, list(2, 1, 2), list(2, 1, 2)}, {1, list(1, 2, 2), list(0, 1, 0)}, {1, list(2, 1, 2), list(1, 0, 0)}, {2, list(2, 1, 2), list(1, 0, 1)},
		{2, list(1, 3), list(1, 1)}, {2, list(3, 1), list(2, 0)}, {10, list(5, 1, 3, 3), list(4, 1, 3, 2)}, {6, list(1, 3, 1, 3), list(1, 2, 1, 2)}, {6, list(3, 1, 3, 1), list(2, 1, 2, 1)},
		// weights far apart
		{65536, list(most, 1), list(65536, 0)}, {65536, list(1, most), list(0, 65536)}, {16, list(1, most, 1), list(0, 16, 0)}, {65536, list(one, most), list(3855, 61681)}, {65536, list(most, most), list(32768, 32768)}, {65535, list(most, most), list(32768, 32767)}, {17, list(one, most), list(1, 16)}, {1, list(most, most-1), list(1, 0)}, {1, list(most-1, most), list(0, 1)},
		{65536, times(64, most), times(64, 1024)}, {65536, times(64, 1), times(64, 1024)}, {1, times(64, one), with(times(64, 0), 0, 1)}, {63, times(64, most), with(times(64, 1), 63, 0)}, {64, times(64, 7), times(64, 1)}, {65, times(64, 7), with(times(64, 1), 0, 2)}, {0, times(64, most), times(64, 0)},
		{65536, with(times(64, 1), 63, most), slices.Concat(list(1, 1, 1), times(60, 0), list(65533))},
		{65536, with(times(64, most), 63, 1), slices.Concat(times(16, 1041), times(47, 1040), list(0))},
	} {
		if got, e := share.Split(c.total, c.w); e != api.OK || !slices.Equal(got, c.want) {
			t.Errorf("Split(%d, %v) = %v, %d, not %v", c.total, c.w, got, e, c.want)
		}
	}
}

func sum(l []int) int {
	n := 0
	for _, v := range l {
		n += v
	}
	return n
}

func TestSplitRefuses(t *testing.T) {
	for _, total := range list(-1, -2, -65536, 65537, 65538, 131072, math.MinInt32, math.MaxInt32, 1<<32, math.MinInt, math.MaxInt) {
		for _, w := range [][]int{list(1), list(most), list(1, 1, 1), times(64, most)} {
			if got, e := share.Split(total, w); len(got) != 0 || e != api.ErrArg {
				t.Errorf("Split(%d, %v) = %v, %d", total, w, got, e)
			}
		}
	}
	for _, total := range list(0, 10, 65536, 65537, -1, math.MinInt, math.MaxInt) {
		for _, c := range wrongLists() {
			want := c.want
			if want == api.OK && (total < 0 || total > longest) {
				want = api.ErrArg
			}
			if got, e := share.Split(total, c.w); e != want || e != api.OK && len(got) != 0 {
				t.Errorf("Split(%d, %v) = %v, %d, not %d", total, c.w, got, e, want)
			}
		}
	}
}

// TestMemory: what is handed in stays as it was, its spare room too, and shares nothing with an answer; answers share nothing with one another.
func TestMemory(t *testing.T) {
	calls := map[string]func(w []int) ([]int, api.Errno){
		"Split":             func(w []int) ([]int, api.Errno) { return share.Split(10, w) },
		"Split of none":     func(w []int) ([]int, api.Errno) { return share.Split(0, w) },
		"Split too long":    func(w []int) ([]int, api.Errno) { return share.Split(-1, w) },
		"Grow":              func(w []int) ([]int, api.Errno) { return share.Grow(w, 1, 1) },
		"Grow by none":      func(w []int) ([]int, api.Errno) { return share.Grow(w, 1, 0) },
		"Grow by a NaN":     func(w []int) ([]int, api.Errno) { return share.Grow(w, 1, math.NaN()) },
		"Grow at no place":  func(w []int) ([]int, api.Errno) { return share.Grow(w, 3, 1) },
		"Check, and nought": func(w []int) ([]int, api.Errno) { return nil, share.Check(w) },
	}
	for name, call := range calls {
		room := times(20, marked)
		w := append(room[2:2:15], 5, one, 7)
		want := slices.Clone(room)
		got, e := call(w)
		again, f := call(w)
		if !slices.Equal(got, again) || e != f {
			t.Errorf("%s: %v, %d, and of the same again %v, %d", name, got, e, again, f)
		}
		kept := slices.Clone(again)
		for i := range got[:cap(got)] {
			got[:cap(got)][i] = marked - 1
		}
		if !slices.Equal(room, want) || !slices.Equal(again, kept) {
			t.Errorf("%s: memory is shared, or changed: %v, %v", name, room, again)
		}
	}
}
