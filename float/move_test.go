package float_test

import (
	"math"
	"testing"

	"casement/api"
	"casement/float"
)

// move is a case of Move.
type move struct {
	r, work api.Rect
	dx, dy  int
	want    api.Rect
}

func checkMove(t *testing.T, cases []move) {
	t.Helper()
	for _, c := range cases {
		if got := float.Move(c.r, c.work, c.dx, c.dy); got != c.want {
			t.Errorf("Move(%v, %v, %d, %d) = %v, not %v", c.r, c.work, c.dx, c.dy, got, c.want)
		}
	}
}

// TestMove: as far as 16 places of it stay in work, each way by itself.
func TestMove(t *testing.T) {
	r, work := rect(35, 40, 30, 20), rect(0, 0, 100, 90)
	checkMove(t, []move{
		{r, work, 0, 0, r}, {r, work, 5, -7, rect(40, 33, 30, 20)}, {r, work, -5, 7, rect(30, 47, 30, 20)}, {r, work, 1, 0, rect(36, 40, 30, 20)}, {r, work, 0, 1, rect(35, 41, 30, 20)},
		{r, rect(0, 0, 100, 100), -500, 0, rect(-14, 40, 30, 20)}, // the chapter's example
		{r, work, -48, 0, rect(-13, 40, 30, 20)}, {r, work, -49, 0, rect(-14, 40, 30, 20)}, {r, work, -50, 0, rect(-14, 40, 30, 20)},
		{r, work, 48, 0, rect(83, 40, 30, 20)}, {r, work, 49, 0, rect(84, 40, 30, 20)}, {r, work, 50, 0, rect(84, 40, 30, 20)},
		{r, work, 0, -43, rect(35, -3, 30, 20)}, {r, work, 0, -44, rect(35, -4, 30, 20)}, {r, work, 0, -45, rect(35, -4, 30, 20)},
		{r, work, 0, 33, rect(35, 73, 30, 20)}, {r, work, 0, 34, rect(35, 74, 30, 20)}, {r, work, 0, 35, rect(35, 74, 30, 20)},
		{r, work, -900, 3, rect(-14, 43, 30, 20)}, {r, work, 3, -900, rect(38, -4, 30, 20)}, {r, work, 900, -900, rect(84, -4, 30, 20)}, {r, work, -900, 900, rect(-14, 74, 30, 20)},
		{r, rect(-60, 200, 50, 40), 0, 0, rect(-26, 196, 30, 20)}, {r, rect(200, -60, 50, 40), 0, 0, rect(186, -36, 30, 20)}, {rect(10, 20, 30, 30), rect(0, 10, 100, 90), 500, -500, rect(84, -4, 30, 30)},
		{rect(-500, 10, 300, 200), work, 0, 0, rect(-284, 10, 300, 200)}, {rect(-200, -100, 300, 200), work, 0, 0, rect(-200, -100, 300, 200)}, {rect(-200, -100, 300, 200), work, 900, 900, rect(84, 74, 300, 200)}, {rect(-200, -100, 300, 200), work, -900, -900, rect(-284, -184, 300, 200)},
	})
}

// TestMoveComesBack: what is too far away is taken back, also where it isn't moved.
func TestMoveComesBack(t *testing.T) {
	work := rect(10, 20, 100, 90)
	for _, d := range []int{0, 1, -1} {
		checkMove(t, []move{
			{rect(500, 600, 30, 20), work, d, d, rect(94, 94, 30, 20)}, {rect(-500, -600, 30, 20), work, d, d, rect(-4, 16, 30, 20)}, {rect(500, -600, 30, 20), work, d, d, rect(94, 16, 30, 20)}, {rect(50, 600, 30, 20), work, d, d, rect(50+d, 94, 30, 20)}, {rect(500, 60, 30, 20), work, d, d, rect(94, 60+d, 30, 20)},
		})
	}
	checkMove(t, []move{{rect(500, 60, 30, 20), work, -430, 0, rect(70, 60, 30, 20)}, {rect(500, 60, 30, 20), work, -405, 0, rect(94, 60, 30, 20)}, {rect(500, 60, 30, 20), work, -406, 0, rect(94, 60, 30, 20)}, {rect(500, 60, 30, 20), work, -407, 0, rect(93, 60, 30, 20)}})
}

// TestMoveSmall: of a client of less than 16 places all stay in work; each way by itself.
func TestMoveSmall(t *testing.T) {
	work := rect(10, 20, 100, 90)
	for n := 1; n <= 18; n++ {
		g := min(n, 16)
		upper, lower := rect(10-n+g, 20-30+16, n, 30), rect(110-g, 110-16, n, 30)
		checkMove(t, []move{{rect(50, 50, n, 30), work, -900, -900, upper}, {rect(50, 50, n, 30), work, 900, 900, lower}, {upper, work, 0, 0, upper}, {upper, work, -1, -1, upper}, {lower, work, 0, 0, lower}, {lower, work, 1, 1, lower}})
		upper, lower = rect(10-30+16, 20-n+g, 30, n), rect(110-16, 110-g, 30, n)
		checkMove(t, []move{{rect(50, 50, 30, n), work, -900, -900, upper}, {rect(50, 50, 30, n), work, 900, 900, lower}, {upper, work, 0, 0, upper}, {upper, work, -1, -1, upper}, {lower, work, 0, 0, lower}, {lower, work, 1, 1, lower}})
	}
	checkMove(t, []move{
		{rect(50, 50, 1, 1), work, -900, -900, rect(10, 20, 1, 1)}, {rect(50, 50, 1, 1), work, 900, 900, rect(109, 109, 1, 1)}, {rect(50, 50, 15, 16), work, -900, -900, rect(10, 20, 15, 16)}, {rect(50, 50, 17, 18), work, -900, -900, rect(9, 18, 17, 18)}, {rect(50, 50, 17, 18), work, 900, 900, rect(94, 94, 17, 18)},
	})
}

// TestMoveSmallWork: of work of less than 16 places all stay covered, or all of the client stays in it.
func TestMoveSmallWork(t *testing.T) {
	r := rect(40, 45, 30, 20)
	for n := 1; n <= 18; n++ {
		g := min(n, 16)
		checkMove(t, []move{
			{r, rect(50, 40, n, 100), -900, -900, rect(50-30+g, 40-20+16, 30, 20)}, {r, rect(50, 40, n, 100), 900, 900, rect(50+n-g, 140-16, 30, 20)}, {r, rect(50, 40, 100, n), -900, -900, rect(50-30+16, 40-20+g, 30, 20)}, {r, rect(50, 40, 100, n), 900, 900, rect(150-16, 40+n-g, 30, 20)},
		})
	}
	checkMove(t, []move{
		{r, rect(50, 50, 6, 5), -900, -900, rect(26, 35, 30, 20)}, {r, rect(50, 50, 6, 5), 900, 900, rect(50, 50, 30, 20)}, {r, rect(50, 50, 6, 5), 0, 0, r}, {r, rect(50, 50, 6, 5), 9, -9, rect(49, 36, 30, 20)}, {r, rect(900, -900, 1, 1), 0, 0, rect(871, -900, 30, 20)}, {r, rect(-900, 900, 1, 1), 0, 0, rect(-900, 881, 30, 20)},
		{rect(0, 0, 4, 3), rect(50, 50, 6, 5), 0, 0, rect(50, 50, 4, 3)}, {rect(90, 90, 4, 3), rect(50, 50, 6, 5), 0, 0, rect(52, 52, 4, 3)}, {rect(0, 0, 6, 5), rect(50, 50, 4, 3), 0, 0, rect(48, 48, 6, 5)}, {rect(90, 90, 6, 5), rect(50, 50, 4, 3), 0, 0, rect(50, 50, 6, 5)}, {rect(0, 0, 4, 5), rect(50, 50, 6, 3), 0, 0, rect(50, 48, 4, 5)}, {rect(90, 90, 4, 5), rect(50, 50, 6, 3), 0, 0, rect(52, 50, 4, 5)}, {rect(9, 9, 6, 6), rect(50, 60, 6, 6), 0, 0, rect(50, 60, 6, 6)},
	})
}

// TestMoveHollow: what has no places is moved as far as the plane goes, wherever work is.
func TestMoveHollow(t *testing.T) {
	for _, work := range append(empty(), rect(0, 0, 100, 100), rect(500, -600, 5, 5), plane) {
		checkMove(t, []move{
			{rect(5, 6, 0, 9), work, 3, -4, rect(8, 2, 0, 9)}, {rect(5, 6, 9, 0), work, -300, 400, rect(-295, 406, 9, 0)}, {rect(900, 800, 0, 0), work, 0, 0, rect(900, 800, 0, 0)}, {api.Rect{}, work, 0, 0, api.Rect{}}, {api.Rect{}, work, -7, 8, rect(-7, 8, 0, 0)},
			{rect(5, 6, 0, 9), work, 99999, 99999, rect(high, high-8, 0, 9)}, {rect(5, 6, 9, 0), work, math.MinInt, math.MaxInt, rect(low, high, 9, 0)}, {rect(high, high, 0, 0), work, 1, -1, rect(high, high-1, 0, 0)}, {rect(low, low, 0, all), work, 1, 1, rect(low+1, low, 0, all)},
		})
	}
}

// TestMoveWithoutWork: without places of work, or where it is not right, it goes as far as the plane does.
func TestMoveWithoutWork(t *testing.T) {
	r := rect(35, 40, 30, 20)
	for _, work := range empty() {
		checkMove(t, []move{
			{r, work, 0, 0, r}, {r, work, 500, -600, rect(535, -560, 30, 20)}, {r, work, -99999, 99999, rect(low, high-19, 30, 20)}, {r, work, math.MaxInt, math.MinInt, rect(high-29, low, 30, 20)}, {rect(-900, 800, 3, 4), work, 1, 2, rect(-899, 802, 3, 4)}, {plane, work, 7, -7, plane},
		})
	}
}

// TestMoveOfWrong: of what is not right there is the zero one, whatever work is.
func TestMoveOfWrong(t *testing.T) {
	for _, r := range wrong() {
		for _, work := range append(empty(), rect(0, 0, 100, 100), plane) {
			checkMove(t, []move{{r, work, 0, 0, api.Rect{}}, {r, work, 5, -5, api.Rect{}}, {r, work, math.MaxInt, math.MinInt, api.Rect{}}})
		}
	}
}

// TestMoveFar: ways of any length, whose sums with places go round.
func TestMoveFar(t *testing.T) {
	r, work := rect(35, 40, 30, 20), rect(0, 0, 100, 90)
	for _, n := range append(far(), 100, 32768) {
		checkMove(t, []move{
			{r, work, n, n, rect(84, 74, 30, 20)}, {r, work, -n, -n, rect(-14, -4, 30, 20)}, {r, work, -n - 1, n, rect(-14, 74, 30, 20)}, {r, work, n, -n - 1, rect(84, -4, 30, 20)}, {r, work, n, 0, rect(84, 40, 30, 20)}, {r, work, 0, -n, rect(35, -4, 30, 20)},
		})
	}
}

// TestMoveAtEdges: nothing goes off the plane, though work would let it.
func TestMoveAtEdges(t *testing.T) {
	r, first, last := rect(0, 0, 30, 20), rect(low, low, 100, 90), rect(high-99, high-89, 100, 90)
	checkMove(t, []move{
		{r, first, 0, 0, rect(low+84, low+74, 30, 20)}, {r, first, -99999, -99999, rect(low, low, 30, 20)}, {r, last, 0, 0, rect(high-113, high-93, 30, 20)}, {r, last, 99999, 99999, rect(high-29, high-19, 30, 20)}, {r, last, -99999, 99999, rect(high-113, high-19, 30, 20)}, {r, first, 99999, -99999, rect(low+84, low, 30, 20)},
		{r, rect(low, low, 1, 1), 0, 0, rect(low, low, 30, 20)}, {r, rect(high, high, 1, 1), 0, 0, rect(high-29, high-19, 30, 20)}, {r, rect(high-5, low+5, 1, 1), 0, 0, rect(high-34, low+5, 30, 20)}, {r, plane, -99999, 99999, rect(low, high-19, 30, 20)}, {r, plane, 7, -8, rect(7, -8, 30, 20)}, {plane, plane, 5, -5, plane}, {plane, first, 5, -5, plane}, {plane, last, 5, -5, plane}, {plane, rect(0, 0, 1, 1), 0, 0, plane},
		{rect(low, low, all-1, all-2), last, -9, -9, rect(low, low, all-1, all-2)}, {rect(low, low, all-1, all-2), first, 9, 9, rect(low+1, low+2, all-1, all-2)}, {rect(high, high, 1, 1), first, 0, 0, rect(low+99, low+89, 1, 1)}, {rect(low, low, 1, 1), last, 0, 0, rect(high-99, high-89, 1, 1)}, {rect(low, high, 1, 1), rect(0, 0, 9, 9), 0, 0, rect(0, 8, 1, 1)},
	})
}
