package share_test

import (
	"math"
	"math/big"
	"slices"
	"testing"

	"casement/api"
	"casement/share"
)

// TestThereAndBack: Weight of Ratio of a weight is it; of a number just beside, it is that weight above, and the one below it below.
func TestThereAndBack(t *testing.T) {
	for n := 1; n <= most; n++ {
		r := share.Ratio(n)
		if got := share.Weight(r); got != n {
			t.Fatalf("Weight(Ratio(%d)) = %d", n, got)
		}
		if got := share.Weight(math.Nextafter(r, 99)); got != n {
			t.Fatalf("Weight just above Ratio(%d) = %d", n, got)
		}
		if got := share.Weight(math.Nextafter(r, -99)); got != max(n-1, 1) {
			t.Fatalf("Weight just below Ratio(%d) = %d", n, got)
		}
	}
}

// TestWeightIsGreatest holds Weight against its words, with numbers that are exact.
func TestWeightIsGreatest(t *testing.T) {
	roll := dice(3)
	for range 20000 {
		f := math.Ldexp(float64(1+roll(1<<24)), roll(60)-50)
		want, _ := new(big.Float).Mul(big.NewFloat(f), big.NewFloat(65536)).Int(nil)
		if want.Cmp(big.NewInt(most)) > 0 {
			want = big.NewInt(most)
		}
		if want.Sign() == 0 {
			want = big.NewInt(1)
		}
		if got := share.Weight(f); int64(got) != want.Int64() {
			t.Fatalf("Weight(%v) = %d, not %v", f, got, want)
		}
		if got := share.Weight(-f); got != 1 {
			t.Fatalf("Weight(%v) = %d, not 1", -f, got)
		}
	}
}

// dice gives numbers that are the same each time.
func dice(seed uint32) func(n int) int {
	return func(n int) int {
		seed = seed*1664525 + 1013904223
		return int(seed>>8) % n
	}
}

// byWords makes the parts as the chapter's words say: each cut down, then one more, one by one, for the earliest of which most is left over.
func byWords(total int, w []int) []int {
	all := big.NewInt(int64(sum(w)))
	var parts []int
	var over []*big.Int
	for _, n := range w {
		part, left := new(big.Int).QuoRem(big.NewInt(int64(total)*int64(n)), all, new(big.Int))
		parts, over = append(parts, int(part.Int64())), append(over, left)
	}
	for sum(parts) < total {
		at := 0
		for i := range over {
			if over[i].Cmp(over[at]) > 0 {
				at = i
			}
		}
		parts[at]++
		over[at] = big.NewInt(-1)
	}
	return parts
}

// check holds Split against the chapter's words, and what follows from them.
func check(t *testing.T, total int, w []int) {
	t.Helper()
	parts, e := share.Split(total, w)
	if e != api.OK || len(parts) != len(w) || sum(parts) != total {
		t.Fatalf("Split(%d, %v) = %v, %d: they are not total together", total, w, parts, e)
	}
	all := sum(w)
	for i, n := range w {
		if off := parts[i]*all - total*n; off <= -all || off >= all {
			t.Fatalf("Split(%d, %v) = %v: part %d is off by 1 or more", total, w, parts, i)
		}
		for j, other := range w {
			if n > other && parts[i] < parts[j] {
				t.Fatalf("Split(%d, %v) = %v: part %d is less than part %d", total, w, parts, i, j)
			}
		}
	}
	if want := byWords(total, w); !slices.Equal(parts, want) {
		t.Fatalf("Split(%d, %v) = %v, not %v", total, w, parts, want)
	}
}

// TestSmallSplits goes through all lists of up to four small weights.
func TestSmallSplits(t *testing.T) {
	const greatest = 5
	for long := 1; long <= 4; long++ {
		w := times(long, 1)
		for {
			for total := range 14 {
				check(t, total, w)
			}
			at := 0
			for at < long && w[at] == greatest {
				w[at] = 1
				at++
			}
			if at == long {
				break
			}
			w[at]++
		}
	}
}

// TestThrownSplits: lists of any length, of weights near one another and far apart, by chance that is the same each time.
func TestThrownSplits(t *testing.T) {
	roll := dice(1)
	for range 3000 {
		greatest := list(1, 2, 9, 1000, one, most)[roll(6)]
		var w []int
		for range 1 + roll(64) {
			w = append(w, 1+roll(greatest))
		}
		for _, total := range list(0, 1, len(w)-1, len(w), len(w)+1, roll(300), roll(longest+1), longest-1, longest) {
			check(t, total, w)
		}
	}
}

// TestEdgeSplits: every total there is, of the greatest and the least weights, and of a single one.
func TestEdgeSplits(t *testing.T) {
	for _, w := range [][]int{list(1), list(most), list(1, most), list(most, most-1, 1)} {
		for total := 0; total <= longest; total += 13 {
			check(t, total, w)
		}
	}
	for _, total := range list(0, 1, 63, 64, 65, 1023, 1024, longest-1, longest) {
		for _, w := range [][]int{times(64, 1), times(64, one), times(64, most), with(times(64, 1), 63, most), with(times(64, most), 0, 1)} {
			check(t, total, w)
		}
	}
}
