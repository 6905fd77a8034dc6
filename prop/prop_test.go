package prop_test

import (
	"fmt"
	"math"
	"slices"
	"strings"
	"testing"
	"unsafe"

	"casement/api"
	"casement/prop"
)

const most = api.MaxProps

func one(name, kind, data string) api.Prop { return api.Prop{Name: name, Type: kind, Data: data} }

func set(t *testing.T, p *prop.Table, win int, one api.Prop) {
	t.Helper()
	if e := p.Set(win, one); e != api.OK {
		t.Fatalf("Set(%d, %q) = %d", win, one, e)
	}
}

// windows are numbers that a window may have: any.
func windows() []int {
	return []int{math.MinInt, math.MinInt32, -1 << 32, -2, -1, 0, 1, 2, 255, 256, 1 << 16, 1<<32 - 1, 1 << 32, 1<<32 + 1, math.MaxInt32, math.MaxInt - 1, math.MaxInt}
}

// nameOf gives each number a name; they rise with it.
func nameOf(n int) string { return fmt.Sprintf("P%03d", n) }

// filled is a table of one window that has so many properties.
func filled(t *testing.T, win, count int) *prop.Table {
	t.Helper()
	p := prop.New()
	for n := range count {
		set(t, p, win, one(nameOf(n), "T", fmt.Sprint(n)))
	}
	return p
}

// holds tells whether a window has just these properties, in that order.
func holds(t *testing.T, p *prop.Table, win int, want ...api.Prop) {
	t.Helper()
	if got := p.List(win); !slices.Equal(got, want) {
		t.Errorf("List(%d) = %q, not %q", win, got, want)
	}
	for _, w := range want {
		if got, ok := p.Get(win, w.Name); got != w || !ok {
			t.Errorf("Get(%d, %s) = %q, %v, not %q", win, w.Name, got, ok, w)
		}
	}
}

// lacks tells whether a window has no properties of these names.
func lacks(t *testing.T, p *prop.Table, win int, names ...string) {
	t.Helper()
	for _, name := range names {
		if got, ok := p.Get(win, name); got != (api.Prop{}) || ok {
			t.Errorf("Get(%d, %q) = %q, %v", win, name, got, ok)
		}
	}
}

// whole tells all that a table tells of windows.
func whole(p *prop.Table) string {
	var s strings.Builder
	for _, win := range append(windows(), 3, 4, 5, 7) {
		fmt.Fprintf(&s, "%d: %q\n", win, p.List(win))
		for n := range most + 2 {
			got, ok := p.Get(win, nameOf(n))
			fmt.Fprintf(&s, "%q %v ", got, ok)
		}
	}
	return s.String()
}

func TestNew(t *testing.T) {
	p := prop.New()
	if p == nil {
		t.Fatal("New: nil")
	}
	for _, win := range windows() {
		holds(t, p, win)
		lacks(t, p, win, "A", "P000", "", "a b")
		if p.Remove(win, "A") || p.Remove(win, "") {
			t.Errorf("Remove(%d) of a new table", win)
		}
		p.Drop(win)
		holds(t, p, win)
	}
}

// signs are all bytes that a name may have.
const signs = "abcdefghijklmnopqrstuvwxyzABCDEFGHIJKLMNOPQRSTUVWXYZ0123456789_"

func TestNameOfEveryByte(t *testing.T) {
	for c := range 256 {
		sign := string([]byte{byte(c)})
		want := strings.Contains(signs, sign)
		for _, before := range []int{0, 1, 15, 30, 31} {
			for _, behind := range []int{0, 1, 15, 31 - before} {
				if before+behind > 31 {
					continue
				}
				s := strings.Repeat("a", before) + sign + strings.Repeat("Z", behind)
				if got := prop.Name(s); got != want {
					t.Errorf("Name(%q) = %v", s, got)
				}
			}
		}
	}
}

func TestNameOfEveryLength(t *testing.T) {
	for n := range 300 {
		for _, sign := range []string{"a", "Z", "0", "_"} {
			s := strings.Repeat(sign, n)
			if got, want := prop.Name(s), 1 <= n && n <= 32; got != want {
				t.Errorf("Name of %d times %s = %v", n, sign, got)
			}
		}
		for _, sign := range []string{" ", "\x00", "\u00e9", "\u20ac", "\xff"} {
			if prop.Name(strings.Repeat(sign, n)) {
				t.Errorf("Name of %d times %q", n, sign)
			}
		}
	}
	for _, n := range []int{1 << 10, 1 << 16, 1<<16 + 1, 1<<20 + 32} {
		if prop.Name(strings.Repeat("a", n)) {
			t.Errorf("Name of %d bytes", n)
		}
	}
}

// TestNameOfOtherSigns: letters, digits and lines of others, some of which end with the bits of one that may stand there, and broken ones.
func TestNameOfOtherSigns(t *testing.T) {
	for _, s := range []string{
		"WM_NAME", "_NET_WM_STATE", "WM_NORMAL_HINTS", "x", "7", "_", "__", "0_a_Z", "nameOf", signs[:32], signs[31:63], "UTF8_STRING",
	} {
		if !prop.Name(s) {
			t.Errorf("Name(%q): no", s)
		}
	}
	for _, s := range []string{
		"", " ", "a b", " a", "a ", "a-b", "a.b", "a\n", "\na", "a\x00", "\x00", "a\x00b", "@", "[", "`", "{", "/", ":", "^", "a'", "WM-NAME", "$A", signs[:33], signs,
		"\u00e9", "a\u00df", "\u0141", "\u0161", "\u0430", "\u0661", "\u0969", "\uff21", "\uff41", "\uff11", "\uff3f", "\u203f", "\ufffd", "\U0001d400", "\U0001d7ce", "\U00010061", "a\u0301", "\u212a", "\u017f",
		"\xff", "a\xff", "\xc3", "\xc3a", "\xe2\x82", "\xed\xa0\x80", "\xc1\xa1", "\xe1", strings.Repeat("\u0161", 16), strings.Repeat("\U00010061", 8),
	} {
		if prop.Name(s) {
			t.Errorf("Name(%q)", s)
		}
	}
}

func TestSetAndGet(t *testing.T) {
	p := prop.New()
	set(t, p, 1, one("B", "T", "x"))
	set(t, p, 1, one("A", "T", ""))
	set(t, p, 2, one("A", "U", "other"))
	holds(t, p, 1, one("A", "T", ""), one("B", "T", "x"))
	holds(t, p, 2, one("A", "U", "other"))
	lacks(t, p, 1, "C", "", "a", "b", "AB", "A ", "A\x00", "T", "x")
	lacks(t, p, 2, "B", "U")
	lacks(t, p, 3, "A", "B")
	set(t, p, 1, one("B", "Other", "y"))
	holds(t, p, 1, one("A", "T", ""), one("B", "Other", "y"))
	set(t, p, 1, one("B", "Other", ""))
	set(t, p, 1, one("A", "T", "z"))
	set(t, p, 1, one("A", "T", "z")) // as it is
	holds(t, p, 1, one("A", "T", "z"), one("B", "Other", ""))
	holds(t, p, 2, one("A", "U", "other"))
	holds(t, p, 3)
}

// TestEdges: names, types and data that are just as long as they may be, and data of any bytes.
func TestEdges(t *testing.T) {
	var all []byte
	for c := range 256 {
		all = append(all, byte(c))
	}
	long, other := strings.Repeat("n", 32), strings.Repeat("n", 31)
	p := prop.New()
	for _, c := range []api.Prop{
		one(long, long, string(all)), one(other, "_", strings.Repeat("\x00", 256)), one("a", long, strings.Repeat("\xff", 255)), one(signs[31:63], signs[:32], "\x00"), one("_", "0", strings.Repeat("\u20ac", 85)+"x"), one("a", "a", ""),
	} {
		set(t, p, 5, c)
		if got, ok := p.Get(5, c.Name); got != c || !ok {
			t.Errorf("Get of %q = %q, %v", c, got, ok)
		}
	}
	lacks(t, p, 5, long[:30], long+"n", "b", string(all))
	if n := len(p.List(5)); n != 5 {
		t.Errorf("%d properties", n)
	}
}

// TestAnyWindow: each number is a window's own.
func TestAnyWindow(t *testing.T) {
	p := prop.New()
	for i, win := range windows() {
		set(t, p, win, one("A", "T", fmt.Sprint(i)))
	}
	for i, win := range windows() {
		holds(t, p, win, one("A", "T", fmt.Sprint(i)))
	}
	for i, win := range windows() {
		if i%2 == 0 {
			p.Drop(win)
		} else if !p.Remove(win, "A") {
			t.Errorf("Remove(%d): no", win)
		}
		for k, other := range windows() {
			if k <= i {
				holds(t, p, other)
			} else {
				holds(t, p, other, one("A", "T", fmt.Sprint(k)))
			}
		}
	}
}

func TestMostProperties(t *testing.T) {
	p := filled(t, 7, most)
	if n := len(p.List(7)); n != most {
		t.Fatalf("%d properties", n)
	}
	noMore := func() {
		t.Helper()
		before := whole(p)
		for _, name := range []string{"Q", "p000", "P", "P0000", nameOf(most)} {
			if e := p.Set(7, one(name, "T", "")); e != api.ErrLimit {
				t.Errorf("Set of one more, %s: %d", name, e)
			}
			lacks(t, p, 7, name)
		}
		if whole(p) != before {
			t.Error("one more changed the table")
		}
	}
	noMore()
	for n := range most { // in place of those that are there
		set(t, p, 7, one(nameOf(n), "U", "new"))
	}
	noMore()
	for n, got := range p.List(7) {
		if got != one(nameOf(n), "U", "new") {
			t.Errorf("property %d: %q", n, got)
		}
	}
	for n := range most { // others' are others
		set(t, p, 8, one(nameOf(n), "T", ""))
	}
	noMore()
	if p.Remove(7, "Q") || p.Remove(8, nameOf(most)) {
		t.Error("Remove of one that is not there")
	}
	noMore()
	if !p.Remove(7, nameOf(9)) {
		t.Error("Remove: no")
	}
	set(t, p, 7, one("Q", "T", ""))
	if e := p.Set(7, one(nameOf(9), "T", "")); e != api.ErrLimit {
		t.Errorf("one more again: %d", e)
	}
	p.Drop(7)
	for n := range most {
		set(t, p, 7, one(nameOf(n+100), "T", ""))
	}
	if e := p.Set(7, one("Q", "T", "")); e != api.ErrLimit || len(p.List(7)) != most || len(p.List(8)) != most {
		t.Errorf("one more behind Drop: %d, %d and %d properties", e, len(p.List(7)), len(p.List(8)))
	}
}

func TestRemove(t *testing.T) {
	p := filled(t, 1, 4)
	set(t, p, 2, one(nameOf(1), "T", "other"))
	for _, name := range []string{"", "Q", "p001", "P00", "P0011", "a b", "P001\x00", strings.Repeat("P", 99)} {
		if p.Remove(1, name) {
			t.Errorf("Remove(1, %q)", name)
		}
	}
	if p.Remove(3, nameOf(1)) || p.Remove(-1, nameOf(1)) || p.Remove(0, nameOf(1)) {
		t.Error("Remove of windows without properties")
	}
	holds(t, p, 1, one("P000", "T", "0"), one("P001", "T", "1"), one("P002", "T", "2"), one("P003", "T", "3"))
	if !p.Remove(1, "P001") || p.Remove(1, "P001") {
		t.Error("Remove(1, P001)")
	}
	lacks(t, p, 1, "P001")
	holds(t, p, 1, one("P000", "T", "0"), one("P002", "T", "2"), one("P003", "T", "3"))
	holds(t, p, 2, one("P001", "T", "other"))
	if !p.Remove(1, "P003") || !p.Remove(1, "P000") || !p.Remove(1, "P002") || p.Remove(1, "P002") {
		t.Error("Remove of the others")
	}
	holds(t, p, 1)
	set(t, p, 1, one("P001", "T", "back"))
	holds(t, p, 1, one("P001", "T", "back"))
	holds(t, p, 2, one("P001", "T", "other"))
}

func TestDrop(t *testing.T) {
	p := filled(t, 1, most)
	set(t, p, 2, one("P001", "T", "other"))
	for _, win := range windows() {
		if win != 1 && win != 2 {
			p.Drop(win)
		}
	}
	if len(p.List(1)) != most || len(p.List(2)) != 1 {
		t.Errorf("others dropped: %q", p.List(1))
	}
	p.Drop(1)
	holds(t, p, 1)
	lacks(t, p, 1, "P000", "P001", "P031")
	holds(t, p, 2, one("P001", "T", "other"))
	if p.Remove(1, "P001") {
		t.Error("Remove behind Drop")
	}
	p.Drop(1)
	set(t, p, 1, one("A", "T", ""))
	holds(t, p, 1, one("A", "T", ""))
}

// TestListRises: by the bytes of names, whenever they came.
func TestListRises(t *testing.T) {
	names := []string{"0", "00", "1", "10", "2", "9", "A", "A0", "AA", "A_", "Aa", "B", "Z", "ZZ", "_", "_0", "_A", "__", "_a", "a", "aA", "aa", "ab", "b", "z", strings.Repeat("z", 31), strings.Repeat("z", 32)}
	orders := [][]string{slices.Clone(names), slices.Clone(names), slices.Clone(names)}
	slices.Reverse(orders[1])
	roll := dice(3)
	for range 40 {
		i, k := roll(len(names)), roll(len(names))
		orders[2][i], orders[2][k] = orders[2][k], orders[2][i]
	}
	for i, order := range orders {
		p := prop.New()
		for _, name := range order {
			set(t, p, 1, one(name, "T", "data of "+name))
		}
		for range 20 { // no map's order is to be seen
			var got []string
			for _, one := range p.List(1) {
				got = append(got, one.Name)
				if one.Data != "data of "+one.Name || one.Type != "T" {
					t.Fatalf("order %d: %q", i, one)
				}
			}
			if !slices.Equal(got, names) {
				t.Fatalf("order %d: %q", i, got)
			}
		}
	}
}

func TestTablesAreApart(t *testing.T) {
	p, q := prop.New(), prop.New()
	set(t, p, 1, one("A", "T", "p"))
	holds(t, q, 1)
	set(t, q, 1, one("A", "T", "q"))
	q.Drop(2)
	p.Drop(1)
	holds(t, p, 1)
	holds(t, q, 1, one("A", "T", "q"))
}

// loose is a text whose bytes may be written over.
func loose(s string) (string, []byte) {
	room := []byte(s)
	return unsafe.String(unsafe.SliceData(room), len(room)), room
}

func TestMemoryOfWhatIsHandedIn(t *testing.T) {
	p := prop.New()
	name, names := loose("Name")
	kind, kinds := loose("Type")
	data, bytes := loose("data")
	set(t, p, 1, one(name, kind, data))
	set(t, p, 1, one(name, kind, data)) // in place of the first one
	if string(names) != "Name" || string(kinds) != "Type" || string(bytes) != "data" {
		t.Errorf("Set changed what was handed in: %s, %s, %s", names, kinds, bytes)
	}
	copy(names, "####")
	copy(kinds, "####")
	copy(bytes, "####")
	holds(t, p, 1, one("Name", "Type", "data"))
	lacks(t, p, 1, "####")
	if !p.Remove(1, "Name") || len(p.List(1)) != 0 {
		t.Error("Remove: no")
	}
}

// shares tells whether two texts lie in the same memory.
func shares(a, b string) bool { return len(a) > 0 && unsafe.StringData(a) == unsafe.StringData(b) }

func TestMemoryOfAnswers(t *testing.T) {
	p := filled(t, 1, 3)
	first, second := p.List(1), p.List(1)
	got, _ := p.Get(1, nameOf(1))
	again, _ := p.Get(1, nameOf(1))
	for _, pair := range [][2]api.Prop{{first[1], second[1]}, {got, again}, {first[1], got}} {
		if pair[0] != pair[1] || shares(pair[0].Name, pair[1].Name) || shares(pair[0].Type, pair[1].Type) || shares(pair[0].Data, pair[1].Data) {
			t.Errorf("two answers share memory: %q and %q", pair[0], pair[1])
		}
	}
	first = first[:cap(first)]
	for i := range first {
		first[i] = one("x", "x", "x")
	}
	want := []api.Prop{one("P000", "T", "0"), one("P001", "T", "1"), one("P002", "T", "2")}
	if !slices.Equal(second, want) {
		t.Errorf("two lists share memory: %q", second)
	}
	holds(t, p, 1, want...)
	p.Remove(1, "P000")
	set(t, p, 1, one("P001", "U", "new"))
	p.Drop(1)
	if !slices.Equal(second, want) || got != want[1] {
		t.Errorf("what was answered changes: %q, %q", second, got)
	}
}

func TestNumbers(t *testing.T) {
	for _, c := range []struct {
		data string
		want []int
	}{
		{"", nil}, {"\xff\xff\xff\xff", []int{-1}}, {"\x02\x01\x00\x00", []int{258}}, {"\x00\x00\x00\x00", []int{0}}, {"\x01\x00\x00\x00", []int{1}}, {"\x00\x01\x00\x00", []int{256}}, {"\x00\x00\x01\x00", []int{65536}}, {"\x00\x00\x00\x01", []int{1 << 24}},
		{"\xff\x00\x00\x00", []int{255}}, {"\xff\xff\x00\x00", []int{65535}}, {"\x00\x80\x00\x00", []int{32768}}, {"\x00\x00\x80\x00", []int{1 << 23}}, {"\xff\xff\xff\x7f", []int{math.MaxInt32}}, {"\x00\x00\x00\x80", []int{math.MinInt32}}, {"\x01\x00\x00\x80", []int{math.MinInt32 + 1}}, {"\xfe\xff\xff\xff", []int{-2}}, {"\x00\x80\xff\xff", []int{-32768}},
		{"\x04\x03\x02\x01", []int{0x01020304}}, {"abcd", []int{0x64636261}}, {"\x01\x00\x00\x00\x02\x00\x00\x00\xfd\xff\xff\xff", []int{1, 2, -3}}, {"\x00\x00\x00\x00\x00\x00\x00\x00", []int{0, 0}},
		{strings.Repeat("\xff", 256), slices.Repeat([]int{-1}, 64)}, {strings.Repeat("\x07\x00\x00\x00", 5000), slices.Repeat([]int{7}, 5000)},
	} {
		if got, ok := prop.Numbers(c.data); !slices.Equal(got, c.want) || !ok {
			t.Errorf("Numbers(%q) = %v, %v, not %v", c.data, got, ok, c.want)
		}
	}
	for n := range 300 {
		got, ok := prop.Numbers(strings.Repeat("\x01", n))
		if n%4 != 0 && (len(got) != 0 || ok) {
			t.Errorf("Numbers of %d bytes: %v", n, got)
		}
		if n%4 == 0 && (!slices.Equal(got, slices.Repeat([]int{0x01010101}, n/4)) || !ok) {
			t.Errorf("Numbers of %d bytes: %v, %v", n, got, ok)
		}
	}
}

func TestData(t *testing.T) {
	for _, c := range []struct {
		l    []int
		want string
	}{
		{nil, ""}, {[]int{}, ""}, {[]int{258}, "\x02\x01\x00\x00"}, {[]int{-1}, "\xff\xff\xff\xff"}, {[]int{0}, "\x00\x00\x00\x00"}, {[]int{0x01020304}, "\x04\x03\x02\x01"}, {[]int{1, 2, -3}, "\x01\x00\x00\x00\x02\x00\x00\x00\xfd\xff\xff\xff"},
		{[]int{math.MaxInt32}, "\xff\xff\xff\x7f"}, {[]int{math.MinInt32}, "\x00\x00\x00\x80"}, {[]int{1 << 31}, "\x00\x00\x00\x80"}, {[]int{1<<32 - 1}, "\xff\xff\xff\xff"}, {[]int{1 << 32}, "\x00\x00\x00\x00"}, {[]int{1<<32 + 258}, "\x02\x01\x00\x00"}, {[]int{-1 << 32}, "\x00\x00\x00\x00"}, {[]int{-1<<32 - 1}, "\xff\xff\xff\xff"}, {[]int{-1<<31 - 1}, "\xff\xff\xff\x7f"},
		{[]int{math.MaxInt}, "\xff\xff\xff\xff"}, {[]int{math.MinInt}, "\x00\x00\x00\x00"}, {[]int{math.MinInt + 7}, "\x07\x00\x00\x00"}, {[]int{0x0102030405060708}, "\x08\x07\x06\x05"},
		{slices.Repeat([]int{-2}, 5000), strings.Repeat("\xfe\xff\xff\xff", 5000)},
	} {
		before := slices.Clone(c.l)
		if got := prop.Data(c.l...); got != c.want {
			t.Errorf("Data(%x) = %q, not %q", c.l, got, c.want)
		}
		if !slices.Equal(c.l, before) {
			t.Errorf("Data changed %v to %v", before, c.l)
		}
	}
	if prop.Data() != "" || prop.Data(1, 2) != "\x01\x00\x00\x00\x02\x00\x00\x00" {
		t.Error("Data of numbers one by one")
	}
}

func TestWords(t *testing.T) {
	for _, c := range []struct {
		data string
		want []string
	}{
		{"", nil}, {"a\x00\x00", []string{"a", ""}}, {"\x00", []string{""}}, {"\x00\x00", []string{"", ""}}, {"\x00\x00\x00", []string{"", "", ""}}, {"a\x00", []string{"a"}}, {"\x00a\x00", []string{"", "a"}}, {"a\x00b\x00", []string{"a", "b"}}, {"a\x00\x00b\x00", []string{"a", "", "b"}}, {"a b\x00c\n\x00", []string{"a b", "c\n"}},
		{"\xff\xc3\x00\u00e9\x00", []string{"\xff\xc3", "\u00e9"}}, {"0\x00", []string{"0"}}, {"\x01\x00", []string{"\x01"}}, {" \x00 \x00", []string{" ", " "}}, {"same\x00same\x00", []string{"same", "same"}},
		{strings.Repeat("\x00", 256), slices.Repeat([]string{""}, 256)}, {strings.Repeat("w", 5000) + "\x00", []string{strings.Repeat("w", 5000)}}, {strings.Repeat("w\x00", 5000), slices.Repeat([]string{"w"}, 5000)},
	} {
		if got, ok := prop.Words(c.data); !slices.Equal(got, c.want) || !ok {
			t.Errorf("Words(%q) = %q, %v, not %q", c.data, got, ok, c.want)
		}
	}
	for _, data := range []string{"a", "ab", " ", "0", "\x01", "\xff", "\x00a", "a\x00b", "\x00\x00a", "a\x00b\x00c", "a\x00\n", "a\x00 ", "a\x000", strings.Repeat("w\x00", 5000) + "w"} {
		if got, ok := prop.Words(data); len(got) != 0 || ok {
			t.Errorf("Words(%q) = %q, %v", data, got, ok)
		}
	}
}

func TestMemoryOfNumbersAndWords(t *testing.T) {
	data, room := loose("a\x00bc\x00\x00")
	words, ok := prop.Words(data)
	other, _ := prop.Words(data)
	fours, _ := loose("\x01\x00\x00\x00\x02\x00\x00\x00")
	numbers, _ := prop.Numbers(fours)
	more, _ := prop.Numbers(fours)
	if string(room) != "a\x00bc\x00\x00" || fours != "\x01\x00\x00\x00\x02\x00\x00\x00" {
		t.Errorf("changed: %q, %q", room, fours)
	}
	copy(room, "####")
	if !slices.Equal(words, []string{"a", "bc", ""}) || !slices.Equal(other, words) || !ok {
		t.Errorf("Words: %q and %q, behind a change of the data", words, other)
	}
	for i := range words {
		if shares(words[i], other[i]) {
			t.Errorf("two answers share the word %q", words[i])
		}
	}
	for _, l := range [][]string{words, words[:cap(words)]} {
		clear(l)
	}
	clear(numbers[:cap(numbers)])
	if !slices.Equal(other, []string{"a", "bc", ""}) || !slices.Equal(more, []int{1, 2}) {
		t.Errorf("two answers share a list: %q, %v", other, more)
	}
}

// TestDataLeavesSpareRoom, and does not hang on how much of it there is.
func TestDataLeavesSpareRoom(t *testing.T) {
	room := []int{1, 2, 3, 4, 5, 6}
	got := prop.Data(room[1:3]...)
	if got != "\x02\x00\x00\x00\x03\x00\x00\x00" || !slices.Equal(room, []int{1, 2, 3, 4, 5, 6}) {
		t.Errorf("Data = %q, and leaves %v", got, room)
	}
	if again := prop.Data(room[1:3]...); shares(got, again) {
		t.Error("two answers share memory")
	}
	clear(room)
	if got != "\x02\x00\x00\x00\x03\x00\x00\x00" {
		t.Errorf("Data behind a change of the numbers: %q", got)
	}
}
