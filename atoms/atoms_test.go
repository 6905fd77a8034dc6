package atoms_test

import (
	"math"
	"slices"
	"strings"
	"testing"
	"unsafe"

	"casement/api"
	"casement/atoms"
	"casement/prop"
)

// words writes words with a byte 0 behind each.
func words(l ...string) string {
	var data strings.Builder
	for _, word := range l {
		data.WriteString(word + "\x00")
	}
	return data.String()
}

// noFours are no numbers, as their bytes are not fours.
func noFours() []string {
	l := []string{"a", "ab", "abc", "\x01", "\x01\x00", "\x01\x00\x00"}
	for _, more := range slices.Clone(l) {
		for _, long := range []int{1, 2, 3, 4, 11, 12, 13} {
			l = append(l, prop.Data(slices.Repeat([]int{7}, long)...)+more)
		}
	}
	return l
}

func TestTransient(t *testing.T) {
	for _, n := range []int{1, 2, 7, 255, 256, 257, 65535, 65536, 1 << 24, math.MaxInt32 - 1, math.MaxInt32} {
		if got, ok := atoms.Transient(prop.Data(n)); got != n || !ok {
			t.Errorf("Transient(%d) = %d, %v", n, got, ok)
		}
	}
	nobodys := noFours()
	for _, l := range [][]int{{}, {0}, {-1}, {-2}, {-7}, {math.MinInt32}, {math.MinInt32 + 1}, {1, 1}, {7, 8}, {7, 0}, {0, 7}, {-1, 7}, {7, -1}, {1, 2, 3}, {1, 0, 0, 0}} {
		nobodys = append(nobodys, prop.Data(l...))
	}
	nobodys = append(nobodys, prop.Data(slices.Repeat([]int{1}, 64)...))
	for _, data := range nobodys {
		if got, ok := atoms.Transient(data); got != 0 || ok {
			t.Errorf("Transient(%q) = %d, %v", data, got, ok)
		}
	}
}

func TestWants(t *testing.T) {
	for _, c := range []struct {
		l             []int
		focus, urgent bool
	}{
		{nil, true, false}, {[]int{0}, true, false}, {[]int{1}, true, false}, {[]int{256}, true, false}, {[]int{257}, true, false}, {[]int{-1}, true, false},
		{[]int{0, 0}, true, false}, {[]int{1, 0}, false, false}, {[]int{1, 1}, true, false}, {[]int{0, 1}, true, false},
		{[]int{256, 0}, true, true}, {[]int{257, 0}, false, true}, {[]int{257, 1}, true, true}, {[]int{256, 1}, true, true},
		{[]int{1, -1}, true, false}, {[]int{1, 2}, true, false}, {[]int{1, 256}, true, false}, {[]int{1, math.MinInt32}, true, false}, {[]int{1, math.MaxInt32}, true, false},
		{[]int{2, 0}, true, false}, {[]int{3, 0}, false, false}, {[]int{-2, 0}, true, true}, {[]int{-1, 0}, false, true}, {[]int{-257, 0}, false, false}, {[]int{-258, 0}, true, false},
		{[]int{255, 0}, false, false}, {[]int{254, 0}, true, false}, {[]int{512, 0}, true, false}, {[]int{511, 0}, false, true}, {[]int{128, 0}, true, false},
		{[]int{math.MinInt32, 0}, true, false}, {[]int{math.MinInt32 + 1, 0}, false, false}, {[]int{math.MaxInt32, 0}, false, true},
		{[]int{1, 0, 1}, false, false}, {[]int{257, 0, 0, 0, 0, 0, 0, 0, 0}, false, true}, {[]int{0, 1, 257}, true, false}, {[]int{1, 0, 256, 256}, false, false}, {[]int{0, 256}, true, false},
	} {
		if focus, urgent := atoms.Wants(prop.Data(c.l...)); focus != c.focus || urgent != c.urgent {
			t.Errorf("Wants(%v) = %v, %v, not %v, %v", c.l, focus, urgent, c.focus, c.urgent)
		}
	}
	for _, data := range append(noFours(), prop.Data(257, 0)+"a", prop.Data(257, 0)[:7], prop.Data(257)+"\x00\x00\x00") {
		if focus, urgent := atoms.Wants(data); !focus || urgent {
			t.Errorf("Wants(%q) = %v, %v", data, focus, urgent)
		}
	}
}

func TestProtocols(t *testing.T) {
	for _, data := range []string{words("delete"), words("delete", "delete"), words("x", "delete"), words("delete", "x"), words("", "delete", ""), words("focus", "x", "delete", "y"), words("a\xff", "delete"), words(slices.Repeat([]string{"x"}, 200)...) + words("delete")} {
		if !atoms.Protocols(data) {
			t.Errorf("Protocols(%q): no", data)
		}
	}
	for _, data := range []string{"", "\x00", "delete", words("x"), words("Delete"), words("DELETE"), words("delete "), words(" delete"), words("deletes"), words("delet"), words("de", "lete"), words("delete\n"), words("x", "delete") + "x", words("delete") + "delete", "\x00delete", words("x delete"), words("elete"), words("focus", "ping"), prop.Data(1, 2)} {
		if atoms.Protocols(data) {
			t.Errorf("Protocols(%q)", data)
		}
	}
}

func TestStates(t *testing.T) {
	for _, c := range []struct {
		data string
		want []string
	}{
		{words("modal", "above", "x", "modal"), []string{"above", "modal"}},
		{words("above"), []string{"above"}}, {words("below"), []string{"below"}}, {words("full"), []string{"full"}}, {words("hidden"), []string{"hidden"}}, {words("modal"), []string{"modal"}},
		{words("modal", "hidden", "full", "below", "above"), []string{"above", "below", "full", "hidden", "modal"}},
		{words("above", "below", "full", "hidden", "modal"), []string{"above", "below", "full", "hidden", "modal"}},
		{words("full", "full", "full"), []string{"full"}}, {words("below", "above", "below", "above"), []string{"above", "below"}},
		{words("", "", "hidden", ""), []string{"hidden"}}, {words("zzz", "full", "aaa"), []string{"full"}},
		{words("\xff", "modal", "\xc3\xa9"), []string{"modal"}},
		{words(slices.Repeat([]string{"modal", "full"}, 3000)...), []string{"full", "modal"}},
		{"", nil}, {"\x00", nil}, {"\x00\x00\x00", nil}, {words("x", "y"), nil}, {words("normal", "dialog", "delete"), nil},
		{"above", nil}, {words("above") + "below", nil}, {words("above", "below") + " ", nil}, {"\x00above", nil},
		{words("Above", "ABOVE", "above ", " above", "abov", "aboves", "above\n", "above below", "a", "ful", "fulll", "hid", "mod", "bellow"), nil},
	} {
		if got := atoms.States(c.data); !slices.Equal(got, c.want) {
			t.Errorf("States(%.99q) = %q, not %q", c.data, got, c.want)
		}
	}
}

func TestKind(t *testing.T) {
	for _, c := range []struct{ data, want string }{
		{words("dialog"), "dialog"}, {words("dock"), "dock"}, {words("normal"), "normal"}, {words("splash"), "splash"}, {words("utility"), "utility"},
		{words("x", "dock", "dialog"), "dock"}, {words("dialog", "dock"), "dialog"}, {words("normal", "dock"), "normal"}, {words("utility", "splash", "normal"), "utility"}, {words("splash", "utility"), "splash"},
		{words("", "x", "", "utility", "y"), "utility"}, {words("menu", "tooltip", "dialog"), "dialog"}, {words("dock", "dock"), "dock"}, {words("\xff", "splash"), "splash"}, {words("full", "dock", "modal"), "dock"},
		{"", "normal"}, {"\x00", "normal"}, {"dock", "normal"}, {words("dock") + "dialog", "normal"}, {words("dialog", "dock") + "x", "normal"}, {"\x00dock", "normal"}, {words("x", "y"), "normal"}, {words("menu"), "normal"},
		{words("Dock", "DOCK", "dock ", " dock", "doc", "docks", "dock\n", "dock dialog", "dial", "splas", "util", "norm"), "normal"},
		{words(slices.Repeat([]string{"x"}, 3000)...) + words("dock"), "dock"},
	} {
		if got := atoms.Kind(c.data); got != c.want {
			t.Errorf("Kind(%.99q) = %q, not %q", c.data, got, c.want)
		}
	}
}

func TestStrut(t *testing.T) {
	const high = api.High
	for _, c := range []struct {
		l    []int
		want api.Strut
	}{
		{[]int{0, 0, 20, 0}, api.Strut{Top: 20}}, {[]int{1, 2, 3, 4}, api.Strut{Left: 1, Right: 2, Top: 3, Bottom: 4}}, {[]int{0, 0, 0, 0}, api.Strut{}},
		{[]int{high, high, high, high}, api.Strut{Left: high, Right: high, Top: high, Bottom: high}}, {[]int{4, 3, 2, 1}, api.Strut{Left: 4, Right: 3, Top: 2, Bottom: 1}},
		{[]int{high, 0, 0, 0}, api.Strut{Left: high}}, {[]int{0, high, 0, 0}, api.Strut{Right: high}}, {[]int{0, 0, high, 0}, api.Strut{Top: high}}, {[]int{0, 0, 0, high}, api.Strut{Bottom: high}},
	} {
		for _, more := range [][]int{nil, make([]int, 8), {-1, -1, -1, -1, -1, -1, -1, -1}, {high + 1, math.MaxInt32, math.MinInt32, 1, 2, 3, 4, 5}} {
			l := slices.Concat(c.l, more)
			if got, ok := atoms.Strut(prop.Data(l...)); got != c.want || !ok {
				t.Errorf("Strut(%v) = %+v, %v, not %+v", l, got, ok, c.want)
			}
		}
	}
}

// TestNoStrut: each number of numbers that it may not have, and each of the four at what it may not be.
func TestNoStrut(t *testing.T) {
	lacks := func(data string) {
		t.Helper()
		if got, ok := atoms.Strut(data); got != (api.Strut{}) || ok {
			t.Errorf("Strut(%q) = %+v, %v", data, got, ok)
		}
	}
	for long := range 65 {
		if long != 4 && long != 12 {
			lacks(prop.Data(make([]int, long)...))
			lacks(prop.Data(slices.Repeat([]int{5}, long)...))
		}
	}
	for _, n := range []int{-1, -2, math.MinInt32, api.Low, api.High + 1, 65535, 65536, math.MaxInt32} {
		for at := range 4 {
			for _, long := range []int{4, 12} {
				l := slices.Repeat([]int{5}, long)
				l[at] = n
				lacks(prop.Data(l...))
			}
		}
	}
	for _, data := range noFours() {
		lacks(data)
	}
	lacks(prop.Data(1, 2, 3, 4)[:15])
	lacks(words("1", "2", "3", "4") + "x")
}

func TestTitle(t *testing.T) {
	for _, c := range []struct{ data, want string }{
		{"", ""}, {"a\n", "a?"}, {"a\x00b\x7f", "a?b?"}, {"a title", "a title"}, {" ", " "}, {"~", "~"}, {" ~", " ~"}, {"?", "?"}, {"\x1f", "?"}, {"\x7f", "?"}, {"\x80", "?"}, {"\xff", "?"}, {"\x00", "?"},
		{"\u00e9", "??"}, {"\u20ac", "???"}, {"\U0001f600", "????"}, {"a\u00e9b", "a??b"}, {"\xff\xfea", "??a"}, {"\t|\t", "?|?"},
		{strings.Repeat("a", 63), strings.Repeat("a", 63)}, {strings.Repeat("a", 64), strings.Repeat("a", 64)}, {strings.Repeat("a", 65), strings.Repeat("a", 64)}, {strings.Repeat("a", 1<<16), strings.Repeat("a", 64)},
		{strings.Repeat("a", 63) + "b", strings.Repeat("a", 63) + "b"}, {strings.Repeat("a", 63) + "bc", strings.Repeat("a", 63) + "b"}, {strings.Repeat("a", 63) + "\u00e9", strings.Repeat("a", 63) + "?"},
		{strings.Repeat("\u20ac", 30), strings.Repeat("?", 64)}, {strings.Repeat("\x00", 99), strings.Repeat("?", 64)}, {strings.Repeat(" ", 70), strings.Repeat(" ", 64)},
	} {
		if got := atoms.Title(c.data); got != c.want {
			t.Errorf("Title(%.99q) = %q, not %q", c.data, got, c.want)
		}
	}
}

// TestTitleSigns: each byte by itself, at the ends of a title and within it.
func TestTitleSigns(t *testing.T) {
	for n := range 256 {
		sign, want := string([]byte{byte(n)}), "?"
		if 32 <= n && n <= 126 {
			want = sign
		}
		for _, around := range [][2]string{{"", ""}, {"a", "b"}, {strings.Repeat("a", 63), "b"}, {"", strings.Repeat("b", 63)}} {
			if got := atoms.Title(around[0] + sign + around[1]); got != (around[0] + want + around[1])[:min(64, len(around[0])+1+len(around[1]))] {
				t.Errorf("Title of byte %d between %q = %q", n, around, got)
			}
		}
	}
}

// loose is a text whose bytes may be written over.
func loose(s string) (string, []byte) {
	room := []byte(s)
	return unsafe.String(unsafe.SliceData(room), len(room)), room
}

func TestMemory(t *testing.T) {
	const given = "modal\x00dock\x00above\x00delete\x00"
	data, room := loose(given)
	states, kind, title := atoms.States(data), atoms.Kind(data), atoms.Title(data)
	again, other := atoms.States(data), atoms.Title(data)
	atoms.Protocols(data)
	atoms.Wants(data)
	atoms.Strut(data)
	atoms.Transient(data)
	if string(room) != given {
		t.Errorf("what was handed in is now %q", room)
	}
	copy(room, strings.Repeat("#", len(room)))
	if !slices.Equal(states, []string{"above", "modal"}) || kind != "dock" || title != "modal?dock?above?delete?" {
		t.Errorf("answers change: %q, %q, %q", states, kind, title)
	}
	clear(states[:cap(states)])
	if !slices.Equal(again, []string{"above", "modal"}) || unsafe.StringData(title) == unsafe.StringData(other) {
		t.Errorf("two answers share memory: %q, %q", again, other)
	}
}
