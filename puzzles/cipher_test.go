package puzzles_test

import (
	"slices"
	"strings"
	"testing"

	"padlock/api"
	"padlock/puzzles"
)

// P3.1: letters are replaced, all other bytes stay.
func TestShift(t *testing.T) {
	for _, c := range []struct {
		text string
		n    int
		want string
	}{
		{"key to red", 3, "nhb wr uhg"}, {"", 7, ""}, {"az", 0, "az"}, {"az", 1, "ba"}, {"az", -1, "zy"}, {"az", 26, "az"}, {"az", -26, "az"},
		{"az", 100, "wv"}, {"az", -100, "ed"}, {"`a{zAZ09\x00\xff\xe1é", 2, "`c{bAZ09\x00\xff\xe1é"},
	} {
		if s, e := puzzles.Shift(c.text, c.n); s != c.want || e != api.OK {
			t.Errorf("Shift(%q, %d) = %q, %d", c.text, c.n, s, e)
		}
	}
	long := strings.Repeat("é", 100)
	for _, c := range []struct {
		text string
		n    int
		e    api.Errno
	}{
		{long, 1, api.OK}, {long + "a", 1, api.ErrMany}, {long + "a", 101, api.ErrMany}, {"a", 100, api.OK}, {"a", 101, api.ErrArg},
		{"a", -100, api.OK}, {"a", -101, api.ErrArg}, {"", most, api.ErrArg}, {"", least, api.ErrArg},
	} {
		s, e := puzzles.Shift(c.text, c.n)
		fails(t, c.text, s == "", e, c.e)
	}
}

// P3.1: the key goes on with each letter of the text, and begins again.
func TestMix(t *testing.T) {
	for _, c := range []struct {
		text, key  string
		back       bool
		want, what string
	}{
		{"attack", "bad", false, "btwbcn", "the example"}, {"btwbcn", "bad", true, "attack", "and back"}, {"zz", "b", false, "aa", "over the end"},
		{"aa", "z", true, "bb", "before the beginning"}, {"a a-a", "abc", false, "a b-c", "letters only"}, {"aaaa", "ab", false, "abab", "repeated"},
		{"AZ09\xff{`", "zzz", false, "AZ09\xff{`", "no letters"}, {"", "a", true, "", "nothing"}, {"aaaaaaaaaaaaa", "abcdefghijkz", false, "abcdefghijkza", "a long key"},
	} {
		if s, e := puzzles.Mix(c.text, c.key, c.back); s != c.want || e != api.OK {
			t.Errorf("%s: Mix(%q, %q, %v) = %q, %d", c.what, c.text, c.key, c.back, s, e)
		}
	}
	long := strings.Repeat("x", 200)
	for _, c := range []struct {
		text, key string
		e         api.Errno
	}{
		{long, "a", api.OK}, {long + "x", "a", api.ErrMany}, {long + "x", "", api.ErrMany}, {"x", "", api.ErrArg}, {"x", "abcdefghijkl", api.OK}, {"x", "abcdefghijklm", api.ErrArg},
		{"x", "A", api.ErrArg}, {"x", "a b", api.ErrArg}, {"x", "`", api.ErrArg}, {"x", "{", api.ErrArg}, {"x", "\xff", api.ErrArg}, {"x", "az", api.OK},
	} {
		for _, back := range []bool{false, true} {
			s, e := puzzles.Mix(c.text, c.key, back)
			fails(t, c.key, s == "", e, c.e)
		}
	}
}

// P3.1: each shift behind which the part is there.
func TestCrack(t *testing.T) {
	all := make([]int, 26)
	for i := range all {
		all[i] = i
	}
	for _, c := range []struct {
		text, part string
		want       []int
	}{
		{"nhb wr uhg", "key", []int{23}}, {"", "", all}, {"abc", "", all}, {"", "a", nil}, {"ace", "c", []int{0, 2, 24}}, {"ab", "abc", nil}, {"a1", "1", all}, {"a1", "1a", nil}, {"xyzaab", "aab", []int{0}},
		{"XYZ", "abc", nil}, {"a b", "a b", []int{0}}, {"ab", "ac", nil}, {"\xffa", "\xffz", []int{25}},
	} {
		if l, e := puzzles.Crack(c.text, c.part); !slices.Equal(l, c.want) || e != api.OK {
			t.Errorf("Crack(%q, %q) = %v, %d", c.text, c.part, l, e)
		}
	}
	long := strings.Repeat("x", 200)
	for _, c := range []struct {
		text, part string
		e          api.Errno
	}{{long, long, api.OK}, {long + "x", "", api.ErrMany}, {"", long + "x", api.ErrMany}, {long + "x", long + "x", api.ErrMany}} {
		l, e := puzzles.Crack(c.text, c.part)
		fails(t, c.part, l == nil, e, c.e)
	}
}

// P3.1: the least degree counts, and at least two elements are left.
func TestNext(t *testing.T) {
	late := make([]int, 20)
	late[18], late[19] = 1, 19
	later := make([]int, 20)
	later[19] = 1
	wild := slices.Repeat([]int{10000, -10000}, 10)
	for _, c := range []struct {
		l            []int
		next, degree int
		e            api.Errno
	}{
		{[]int{1, 4, 9, 16}, 25, 2, api.OK}, {[]int{5, 5}, 5, 0, api.OK}, {[]int{1, 2, 4}, 0, 0, api.ErrNone}, {[]int{1, 2}, 0, 0, api.ErrNone}, {[]int{1, 2, 3}, 4, 1, api.OK},
		{[]int{3, 3, 3, 3}, 3, 0, api.OK}, {[]int{0, 1, 8, 27, 64}, 125, 3, api.OK}, {[]int{9, 7, 5}, 3, 1, api.OK}, {[]int{0, 0, 1, 3}, 6, 2, api.OK}, {[]int{0, 0, 0, 1}, 0, 0, api.ErrNone},
		{late, 190, 18, api.OK}, {later, 0, 0, api.ErrNone}, {wild, 0, 0, api.ErrNone}, {[]int{-10000, 10000, 30000}, 0, 0, api.ErrArg}, {[]int{-10000, 0, 10000}, 20000, 1, api.OK},
		{nil, 0, 0, api.ErrArg}, {[]int{1}, 0, 0, api.ErrArg}, {make([]int, 20), 0, 0, api.OK}, {make([]int, 21), 0, 0, api.ErrArg}, {[]int{10000, 10000}, 10000, 0, api.OK}, {[]int{10001, 10001}, 0, 0, api.ErrArg},
		{[]int{-10000, -10000}, -10000, 0, api.OK}, {[]int{-10001, -10001}, 0, 0, api.ErrArg}, {[]int{0, least}, 0, 0, api.ErrArg}, {[]int{most, most}, 0, 0, api.ErrArg},
	} {
		if next, degree, e := puzzles.Next(c.l); next != c.next || degree != c.degree || e != c.e {
			t.Errorf("Next(%v) = %d, %d, %d", c.l, next, degree, e)
		}
	}
}
