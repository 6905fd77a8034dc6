package prop_test

import (
	"cmp"
	"fmt"
	"math"
	"slices"
	"strings"
	"testing"

	"casement/api"
	"casement/prop"
)

// dice gives numbers that are the same each time.
func dice(seed uint32) func(n int) int {
	return func(n int) int {
		seed = seed*1664525 + 1013904223
		return int(seed>>8) % n
	}
}

func throwBytes(roll func(n int) int, most, kinds int) string {
	var s []byte
	for range roll(most + 1) {
		s = append(s, byte(roll(kinds)))
	}
	return string(s)
}

func throwNumber(roll func(n int) int) int {
	n := roll(1<<16)<<16 | roll(1<<16)
	return int(int32(n)) >> roll(32)
}

// byHand tells a number's four bytes by division.
func byHand(n int) string {
	var s []byte
	for range 4 {
		low := (n%256 + 256) % 256
		s = append(s, byte(low))
		n = (n - low) / 256
	}
	return string(s)
}

// TestWrittenNumbersAreRead as they were.
func TestWrittenNumbersAreRead(t *testing.T) {
	roll := dice(3)
	edges := []int{0, 1, -1, 127, 128, 255, 256, -128, -129, -256, -257, 1<<16 - 1, 1 << 16, -1 << 16, 1<<24 - 1, 1 << 24, -1 << 24, math.MaxInt32, math.MaxInt32 - 1, math.MinInt32, math.MinInt32 + 1}
	for range 3000 {
		var l []int
		for range roll(20) {
			l = append(l, throwNumber(roll))
		}
		l = append(l, edges[roll(len(edges))])
		data, want := prop.Data(l...), ""
		for _, n := range l {
			want += byHand(n)
		}
		if data != want {
			t.Fatalf("Data(%v) = %x, not %x", l, data, want)
		}
		if got, ok := prop.Numbers(data); !slices.Equal(got, l) || !ok {
			t.Fatalf("%v is read as %v, %v", l, got, ok)
		}
	}
	for _, n := range edges {
		if got, ok := prop.Numbers(prop.Data(n)); !slices.Equal(got, []int{n}) || !ok {
			t.Errorf("%d is read as %v, %v", n, got, ok)
		}
	}
}

// TestReadIsWrittenAsItWas: all bytes are, of which there are fours; and the numbers have 32 bits.
func TestReadIsWrittenAsItWas(t *testing.T) {
	roll := dice(7)
	for range 4000 {
		data := throwBytes(roll, 40, 256)
		l, ok := prop.Numbers(data)
		if ok != (len(data)%4 == 0) || len(l) != 0 && !ok {
			t.Fatalf("Numbers(%x) = %v, %v", data, l, ok)
		}
		if !ok {
			continue
		}
		if again := prop.Data(l...); again != data {
			t.Fatalf("%x is read as %v, and written as %x", data, l, again)
		}
		for _, n := range l {
			if n < math.MinInt32 || n > math.MaxInt32 {
				t.Fatalf("Numbers(%x): %d", data, n)
			}
		}
	}
	for c := range 256 { // each byte, at each place
		for at := range 4 {
			data := []byte{0, 0, 0, 0}
			data[at] = byte(c)
			if l, ok := prop.Numbers(string(data)); !ok || prop.Data(l...) != string(data) || l[0] != int(int32(uint32(c)<<(8*at))) {
				t.Errorf("%x is read as %v", data, l)
			}
		}
	}
}

// TestLowestBitsAlone: what is above 32 bits changes nothing of what is written.
func TestLowestBitsAlone(t *testing.T) {
	roll := dice(11)
	for range 3000 {
		n := throwNumber(roll)
		if far := n + (roll(1<<20)-1<<19)<<32; prop.Data(far) != prop.Data(n) {
			t.Fatalf("Data(%x) = %x, not %x", far, prop.Data(far), prop.Data(n))
		}
	}
}

// TestWordsPutTogether: with a byte 0 behind each, they are the data again, and there is none in them.
func TestWordsPutTogether(t *testing.T) {
	roll := dice(13)
	for range 4000 {
		data := throwBytes(roll, 12, 3)
		l, ok := prop.Words(data)
		if want := data == "" || data[len(data)-1] == 0; ok != want || len(l) != 0 && !ok {
			t.Fatalf("Words(%q) = %q, %v", data, l, ok)
		}
		together := ""
		for _, w := range l {
			together += w + "\x00"
			if strings.Contains(w, "\x00") {
				t.Fatalf("Words(%q) = %q", data, l)
			}
		}
		if ok && together != data {
			t.Fatalf("Words(%q) = %q", data, l)
		}
	}
}

// owned is a property, and whose it is.
type owned struct {
	win int
	api.Prop
}

// byWords is a table as the chapter's words say: all properties in one list.
type byWords struct{ list []owned }

func (m *byWords) at(win int, name string) int {
	return slices.IndexFunc(m.list, func(o owned) bool { return o.win == win && o.Name == name })
}

func (m *byWords) of(win int) []api.Prop {
	var l []api.Prop
	for _, o := range m.list {
		if o.win == win {
			l = append(l, o.Prop)
		}
	}
	slices.SortFunc(l, func(a, b api.Prop) int { return cmp.Compare(a.Name, b.Name) })
	return l
}

func isName(s string) bool {
	return len(s) >= 1 && len(s) <= 32 && strings.Trim(s, signs) == ""
}

func (m *byWords) set(win int, p api.Prop) api.Errno {
	i := m.at(win, p.Name)
	switch {
	case !isName(p.Name) || !isName(p.Type):
		return api.ErrName
	case len(p.Data) > 256:
		return api.ErrData
	case i >= 0:
		m.list[i].Prop = p
	case len(m.of(win)) == 32:
		return api.ErrLimit
	default:
		m.list = append(m.list, owned{win, p})
	}
	return api.OK
}

func (m *byWords) remove(win int, name string) bool {
	i := m.at(win, name)
	if i >= 0 {
		m.list = slices.Delete(m.list, i, i+1)
	}
	return i >= 0
}

func (m *byWords) drop(win int) {
	m.list = slices.DeleteFunc(m.list, func(o owned) bool { return o.win == win })
}

// pair is a table, and what it should be.
type pair struct {
	got  *prop.Table
	want *byWords
}

// throwName names mostly properties that may be: some more than a window may have, in no order.
func throwName(roll func(n int) int) string {
	if roll(30) == 0 {
		return []string{"", "a b", "\u00e9", strings.Repeat("a", 33)}[roll(4)]
	}
	n := roll(36)
	return signs[n*7%63:n*7%63+1] + strings.Repeat("x", n%3) + signs[n:n+1]
}

func throwProp(roll func(n int) int) api.Prop {
	p := one(throwName(roll), throwName(roll), throwBytes(roll, 9, 256))
	if roll(30) == 0 {
		p.Data = strings.Repeat("d", 255+roll(3))
	}
	return p
}

var few = []int{-1, 0, 3}

// step does one thing to both, and tells what was done, with what came of it.
func (c pair) step(roll func(n int) int) (name string, got, want any) {
	win := few[roll(len(few))]
	switch n := roll(150); {
	case n == 0:
		c.got.Drop(win)
		c.want.drop(win)
		return fmt.Sprint("Drop ", win), nil, nil
	case n < 15:
		name := throwName(roll)
		return fmt.Sprint("Remove ", win, name), c.got.Remove(win, name), c.want.remove(win, name)
	}
	p := throwProp(roll)
	return fmt.Sprintf("Set %d %q", win, p), c.got.Set(win, p), c.want.set(win, p)
}

// alike holds all that both tell.
func (c pair) alike(t *testing.T, name string) {
	t.Helper()
	for _, win := range append([]int{1, math.MaxInt}, few...) {
		want := c.want.of(win)
		if got := c.got.List(win); !slices.Equal(got, want) {
			t.Fatalf("%s: List(%d) = %q, not %q", name, win, got, want)
		}
		for _, p := range want {
			if got, ok := c.got.Get(win, p.Name); got != p || !ok {
				t.Fatalf("%s: Get(%d, %s) = %q, %v, not %q", name, win, p.Name, got, ok, p)
			}
		}
	}
}

// TestThrownSteps holds tables against the chapter's words, behind each of many steps: so each changes its window's property of its name, and no other.
func TestThrownSteps(t *testing.T) {
	roll, full := dice(17), 0
	for range 20 {
		c := pair{prop.New(), &byWords{}}
		for n := range 600 {
			name, got, want := c.step(roll)
			name = fmt.Sprint("behind step ", n, ", ", name)
			if got != want {
				t.Fatalf("%s: %v, not %v", name, got, want)
			}
			if got == api.ErrLimit {
				full++
			}
			c.alike(t, name)
			missing := throwName(roll)
			if p, ok := c.got.Get(few[n%3], missing); ok != (c.want.at(few[n%3], missing) >= 0) || !ok && p != (api.Prop{}) {
				t.Fatalf("%s: Get(%d, %s) = %q, %v", name, few[n%3], missing, p, ok)
			}
		}
	}
	if full < 50 {
		t.Errorf("only %d found no room", full)
	}
}

// TestOthersPlayNoPart: a window's properties are as if there were no others, of windows or of names.
func TestOthersPlayNoPart(t *testing.T) {
	roll := dice(19)
	for range 300 {
		crowd, alone := prop.New(), prop.New()
		for range 60 {
			win, p := few[roll(len(few))], throwProp(roll)
			if roll(4) == 0 {
				crowd.Remove(win, p.Name)
				if win == 0 {
					alone.Remove(win, p.Name)
				}
				continue
			}
			e := crowd.Set(win, p)
			if win == 0 && alone.Set(win, p) != e {
				t.Fatalf("Set(%d, %q) = %d, beside others", win, p, e)
			}
		}
		if roll(2) == 0 {
			crowd.Drop(-1)
		}
		if got, want := crowd.List(0), alone.List(0); !slices.Equal(got, want) {
			t.Fatalf("List(0) = %q beside others, %q alone", got, want)
		}
	}
}
