package atoms_test

import (
	"slices"
	"strings"
	"testing"

	"casement/api"
	"casement/atoms"
	"casement/prop"
)

// dice gives numbers that are the same each time.
func dice(seed uint32) func(n int) int {
	return func(n int) int {
		seed = seed*1664525 + 1013904223
		return int(seed>>8) % n
	}
}

func vocabulary() []string {
	return []string{"above", "below", "full", "hidden", "modal", "dialog", "dock", "normal", "splash", "utility", "delete", "x", "", "abov", "modals", "Full", "\xff"}
}

func thrownWords(roll func(int) int) []string {
	all := vocabulary()
	var l []string
	for range roll(9) {
		l = append(l, all[roll(len(all))])
	}
	return l
}

func among(word, all string) bool { return slices.Contains(strings.Fields(all), word) }

// read is the chapter's words of what is read of words.
type read struct {
	states  map[string]bool
	kind    string
	deletes bool
}

func readByWords(l []string) read {
	r := read{states: map[string]bool{}}
	for _, word := range l {
		if among(word, "above below full hidden modal") {
			r.states[word] = true
		}
		if r.kind == "" && among(word, "dialog dock normal splash utility") {
			r.kind = word
		}
		r.deletes = r.deletes || word == "delete"
	}
	if r.kind == "" {
		r.kind = "normal"
	}
	return r
}

func checkWords(t *testing.T, data string, want read) {
	t.Helper()
	states := atoms.States(data)
	for i, word := range states {
		if !want.states[word] || i > 0 && states[i-1] >= word {
			t.Fatalf("States(%q) = %q", data, states)
		}
	}
	if len(states) != len(want.states) {
		t.Fatalf("States(%q) = %q", data, states)
	}
	if kind := atoms.Kind(data); kind != want.kind {
		t.Fatalf("Kind(%q) = %q, not %q", data, kind, want.kind)
	}
	if deletes := atoms.Protocols(data); deletes != want.deletes {
		t.Fatalf("Protocols(%q) = %v", data, deletes)
	}
}

// TestThrownWords holds what is read of words against the chapter's words, and of what are no words, too.
func TestThrownWords(t *testing.T) {
	roll := dice(1)
	for range 5000 {
		l := thrownWords(roll)
		checkWords(t, words(l...), readByWords(l))
		checkWords(t, words(l...)+"above", readByWords(nil))
	}
}

// TestOrderOfWords: it changes no states, nor does it how often one stands there, nor a word that is none.
func TestOrderOfWords(t *testing.T) {
	roll := dice(2)
	for range 3000 {
		l := thrownWords(roll)
		want := atoms.States(words(l...))
		for i := range l {
			k := roll(i + 1)
			l[i], l[k] = l[k], l[i]
		}
		if got := atoms.States(words(l...)); !slices.Equal(got, want) {
			t.Fatalf("States(%q) = %q, not %q as in another order", l, got, want)
		}
		for range roll(5) {
			l = slices.Insert(l, roll(len(l)+1), "y")
			l = slices.Insert(l, roll(len(l)+1), l[roll(len(l))])
		}
		if got := atoms.States(words(l...)); !slices.Equal(got, want) {
			t.Fatalf("States(%q) = %q, not %q as ahead of what stands there again", l, got, want)
		}
		if got := atoms.States(words(want...)); !slices.Equal(got, want) {
			t.Fatalf("States(%q) = %q", want, got)
		}
	}
}

// TestStatesOfAllOrders of the five.
func TestStatesOfAllOrders(t *testing.T) {
	all := []string{"above", "below", "full", "hidden", "modal"}
	count := 0
	var put func(l []string)
	put = func(l []string) {
		if len(l) == len(all) {
			count++
			if got := atoms.States(words(l...)); !slices.Equal(got, all) {
				t.Errorf("States(%q) = %q", l, got)
			}
			return
		}
		for _, word := range all {
			if !slices.Contains(l, word) {
				put(append(slices.Clone(l), word))
			}
		}
	}
	put(nil)
	if count != 120 {
		t.Errorf("%d orders", count)
	}
}

func TestTitleIsItsOwn(t *testing.T) {
	roll := dice(3)
	for range 3000 {
		var data []byte
		for range roll(99) {
			data = append(data, byte(roll(256)))
		}
		title := atoms.Title(string(data))
		if len(title) != min(len(data), 64) || atoms.Title(title) != title {
			t.Fatalf("Title(%q) = %q, and its own is %q", data, title, atoms.Title(title))
		}
		for i := range len(title) {
			seen := 32 <= data[i] && data[i] <= 126
			if seen && title[i] != data[i] || !seen && title[i] != '?' {
				t.Fatalf("Title(%q) = %q at %d", data, title, i)
			}
		}
	}
}

// TestThrownNumbers holds what is read of numbers against the chapter's words.
func TestThrownNumbers(t *testing.T) {
	roll := dice(4)
	odd := []int{-1, 0, 1, 256, 257, api.High, api.High + 1, 1<<31 - 1, -1 << 31}
	for range 20000 {
		l := make([]int, roll(15))
		for i := range l {
			l[i] = roll(1000)
			if roll(12) == 0 {
				l[i] = odd[roll(len(odd))]
			}
		}
		data := prop.Data(l...)
		checkTransient(t, data, l)
		checkWants(t, data, l)
		checkStrut(t, data, l)
		checkTransient(t, data+"a", nil)
		checkWants(t, data+"ab", nil)
		checkStrut(t, data+"abc", nil)
	}
}

func checkTransient(t *testing.T, data string, l []int) {
	t.Helper()
	want := 0
	if len(l) == 1 {
		want = max(l[0], 0)
	}
	if n, ok := atoms.Transient(data); n != want || ok != (want > 0) {
		t.Fatalf("Transient(%v) = %d, %v, not %d", l, n, ok, want)
	}
}

func checkWants(t *testing.T, data string, l []int) {
	t.Helper()
	wantFocus, wantUrgent := true, false
	if len(l) >= 2 {
		low := (l[0]%512 + 512) % 512
		wantFocus = low%2 == 0 || l[1] != 0
		wantUrgent = low >= 256
	}
	if focus, urgent := atoms.Wants(data); focus != wantFocus || urgent != wantUrgent {
		t.Fatalf("Wants(%v) = %v, %v, not %v, %v", l, focus, urgent, wantFocus, wantUrgent)
	}
}

func checkStrut(t *testing.T, data string, l []int) {
	t.Helper()
	var want api.Strut
	there := len(l) == 4 || len(l) == 12
	if there {
		for _, n := range l[:4] {
			there = there && 0 <= n && n <= 32767
		}
	}
	if there {
		want = api.Strut{Left: l[0], Right: l[1], Top: l[2], Bottom: l[3]}
	}
	if got, ok := atoms.Strut(data); got != want || ok != there {
		t.Fatalf("Strut(%v) = %+v, %v, not %+v, %v", l, got, ok, want, there)
	}
}
