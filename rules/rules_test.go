package rules_test

import (
	"fmt"
	"slices"
	"testing"

	"padlock/api"
	"padlock/rules"
)

// R1: the first error counts.
func TestFirst(t *testing.T) {
	for _, c := range []struct {
		errors []api.Errno
		want   api.Errno
	}{
		{nil, api.OK}, {[]api.Errno{api.OK, api.OK}, api.OK}, {[]api.Errno{api.OK, api.ErrNote, api.ErrArg}, api.ErrNote}, {[]api.Errno{api.ErrArg, api.OK}, api.ErrArg},
	} {
		if e := rules.First(c.errors...); e != c.want {
			t.Errorf("First(%v) = %d, want %d", c.errors, e, c.want)
		}
	}
	if a, b := rules.Unless(true, api.ErrArg), rules.Unless(false, api.ErrArg); a != api.OK || b != api.ErrArg {
		t.Errorf("Unless = %d, %d", a, b)
	}
}

// R7: bounds are included.
func TestWithin(t *testing.T) {
	for n, want := range map[int]bool{1: false, 2: true, 3: true, 4: true, 5: false, -1 << 63: false, 1<<63 - 1: false} {
		if rules.Within(n, 2, 4) != want {
			t.Errorf("Within(%d, 2, 4) is not %v", n, want)
		}
	}
}

func TestAllWithin(t *testing.T) {
	for _, c := range []struct {
		list []int
		want bool
	}{{nil, true}, {[]int{2}, true}, {[]int{4, 2, 3}, true}, {[]int{1, 2}, false}, {[]int{2, 5}, false}, {[]int{2, 1<<63 - 1, 2}, false}} {
		if rules.AllWithin(c.list, 2, 4) != c.want {
			t.Errorf("AllWithin(%v, 2, 4) is not %v", c.list, c.want)
		}
	}
}

func TestIsOf(t *testing.T) {
	for n, want := range map[int]bool{-1 << 63: false, -1: false, 0: true, 1: true, 2: false, 1<<63 - 1: false} {
		if rules.IsOf([]string{"a", "b"}, n) != want {
			t.Errorf("IsOf(%d) is not %v", n, want)
		}
	}
	if rules.IsOf([]int(nil), 0) {
		t.Error("an empty list has an element")
	}
}

func TestNumbers(t *testing.T) {
	odd := func(n int) bool { return n%2 == 1 }
	for n, want := range map[int][]int{-1: nil, 0: nil, 1: nil, 2: {1}, 5: {1, 3}, 6: {1, 3, 5}} {
		if l := rules.Numbers(n, odd); !slices.Equal(l, want) {
			t.Errorf("Numbers(%d) = %v, want %v", n, l, want)
		}
	}
}

func TestAreLetters(t *testing.T) {
	for text, want := range map[string]bool{"": true, "a": true, "az": true, "`": false, "{": false, "aZ": false, "1a": false, "a b": false, "\xe1": false} {
		if rules.AreLetters(text) != want {
			t.Errorf("AreLetters(%q) is not %v", text, want)
		}
	}
}

// R9: digits without a leading zero or a sign.
func TestNumber(t *testing.T) {
	for word, want := range map[string]int{"0": 0, "7": 7, "10": 10, "99": 99} {
		if n, ok := rules.Number(word, 2); n != want || !ok {
			t.Errorf("Number(%q) = %d, %v", word, n, ok)
		}
	}
	for _, word := range []string{"", "00", "01", "100", "-1", "+1", " 1", "1 ", "1a", "/", ":", "٣", "\x00", "\xff"} {
		if n, ok := rules.Number(word, 2); n != 0 || ok {
			t.Errorf("Number(%q) = %d, %v", word, n, ok)
		}
	}
	if n, ok := rules.Number("999999999999999999", 18); n != 999999999999999999 || !ok {
		t.Errorf("Number of 18 digits = %d, %v", n, ok)
	}
}

func TestDigits(t *testing.T) {
	for word, want := range map[string][]int{"0": {0}, "007": {0, 0, 7}, "9012": {9, 0, 1, 2}} {
		if l, ok := rules.Digits(word, 4); !slices.Equal(l, want) || !ok || rules.FromDigits(l) != word {
			t.Errorf("Digits(%q) = %v, %v", word, l, ok)
		}
	}
	for _, word := range []string{"", "12345", "1/", "1:", "a", "\xff\xff"} {
		if l, ok := rules.Digits(word, 4); l != nil || ok {
			t.Errorf("Digits(%q) = %v, %v", word, l, ok)
		}
	}
}

func TestLists(t *testing.T) {
	for _, c := range []struct {
		length, least, most int
		want                string
	}{
		{2, 0, 2, "[0 0][0 1][0 2][1 0][1 1][1 2][2 0][2 1][2 2]"}, {1, -1, 1, "[-1][0][1]"}, {3, 5, 5, "[5 5 5]"}, {0, 0, 9, "[]"},
	} {
		text := ""
		for list := range rules.Lists(c.length, c.least, c.most) {
			text += fmt.Sprint(list)
		}
		if text != c.want {
			t.Errorf("Lists(%d, %d, %d) = %s, want %s", c.length, c.least, c.most, text, c.want)
		}
	}
	n := 0
	for range rules.Lists(4, 0, 9) {
		if n++; n == 3 {
			break
		}
	}
	if n != 3 {
		t.Errorf("%d lists", n)
	}
}

func TestCount(t *testing.T) {
	for length, want := range []int{1, 10, 100, 1000, 10000} {
		if n := rules.Count(rules.Lists(length, 0, 9)); n != want {
			t.Errorf("Count of the lists with %d digits = %d, want %d", length, n, want)
		}
	}
	if n := rules.Count(slices.Values([]string(nil))); n != 0 {
		t.Errorf("Count of nothing = %d", n)
	}
}
