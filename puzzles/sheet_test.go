package puzzles_test

import (
	"slices"
	"strings"
	"testing"

	"padlock/api"
	"padlock/puzzles"
)

// P3.6: holes show what lies under them.
func TestSee(t *testing.T) {
	upper, lower := api.Sheet{".x"}, api.Sheet{"ab", "cd"}
	corner, wide := api.Sheet{".xx", "xx."}, api.Sheet{"abc", "def", "ghi"}
	for i, c := range []struct {
		upper, lower api.Sheet
		s            api.Spot
		want         string
	}{
		{upper, lower, api.Spot{}, "a"}, {upper, lower, api.Spot{Turn: 1}, "a"}, {upper, lower, api.Spot{Turn: 2}, "b"}, {upper, lower, api.Spot{Turn: 3}, "c"}, {upper, lower, api.Spot{X: 1}, "b"}, {upper, lower, api.Spot{Y: 1}, "c"}, {upper, lower, api.Spot{X: -1}, ""}, {upper, lower, api.Spot{Y: -1}, ""}, {upper, lower, api.Spot{X: 2}, ""}, {upper, lower, api.Spot{Y: 2}, ""},
		{upper, lower, api.Spot{Turn: 3, X: 1, Y: -1}, "b"}, {upper, lower, api.Spot{Turn: 2, X: -1, Y: 1}, "c"}, {upper, lower, api.Spot{X: 8, Y: 8}, ""}, {upper, lower, api.Spot{X: -8, Y: -8, Turn: 3}, ""},
		{corner, wide, api.Spot{}, "af"}, {corner, wide, api.Spot{Turn: 1}, "bg"}, {corner, wide, api.Spot{Turn: 2}, "af"}, {corner, wide, api.Spot{Turn: 1, X: 1}, "ch"}, {corner, wide, api.Spot{Turn: 3}, "bg"}, {corner, wide, api.Spot{X: 1, Y: 1}, "e"}, {corner, wide, api.Spot{X: -2, Y: -1}, "a"},
		{api.Sheet{".ab", "x.c"}, wide, api.Spot{Turn: 1}, "bd"}, {api.Sheet{".ab", "x.c"}, wide, api.Spot{Turn: 2}, "bf"}, {api.Sheet{".ab", "x.c"}, wide, api.Spot{Turn: 3}, "eg"}, {api.Sheet{"..", ".."}, api.Sheet{"a.", ".d"}, api.Spot{}, "ad"}, {api.Sheet{"."}, api.Sheet{"."}, api.Spot{}, ""}, {api.Sheet{"x"}, api.Sheet{"a"}, api.Spot{}, ""},
		{api.Sheet{"........", "........"}, api.Sheet{"abcdefgh"}, api.Spot{X: -8}, ""}, {api.Sheet{"........"}, api.Sheet{"abcdefgh"}, api.Spot{X: -7}, "a"}, {api.Sheet{"........"}, api.Sheet{"abcdefgh"}, api.Spot{X: 7}, "h"},
	} {
		if s, e := puzzles.See(c.upper, c.lower, c.s); s != c.want || e != api.OK {
			t.Errorf("%d: See = %q, %d, want %q", i, s, e, c.want)
		}
	}
	for _, c := range []struct {
		s api.Spot
		e api.Errno
	}{
		{api.Spot{Turn: 3, X: 8, Y: -8}, api.OK}, {api.Spot{Turn: 0, X: -8, Y: 8}, api.OK}, {api.Spot{Turn: 4}, api.ErrArg}, {api.Spot{Turn: -1}, api.ErrArg}, {api.Spot{X: 9}, api.ErrArg}, {api.Spot{X: -9}, api.ErrArg}, {api.Spot{Y: 9}, api.ErrArg}, {api.Spot{Y: -9}, api.ErrArg}, {api.Spot{Turn: most}, api.ErrArg}, {api.Spot{X: least}, api.ErrArg},
	} {
		s, e := puzzles.See(upper, lower, c.s)
		fails(t, "See", s == "", e, c.e)
	}
}

// P3.6: all spots, in order.
func TestFind(t *testing.T) {
	eight := slices.Repeat([]string{"........"}, 8)
	letters := slices.Repeat([]string{"abcdefgh"}, 8)
	for i, c := range []struct {
		upper, lower api.Sheet
		word         string
		want         []api.Spot
	}{
		{api.Sheet{"."}, api.Sheet{"ab"}, "b", []api.Spot{{Turn: 0, X: 1}, {Turn: 1, X: 1}, {Turn: 2, X: 1}, {Turn: 3, X: 1}}}, {api.Sheet{".."}, api.Sheet{"ab"}, "ab", []api.Spot{{}, {Turn: 2}}}, {api.Sheet{".."}, api.Sheet{"ab"}, "ba", nil},
		{api.Sheet{".x"}, api.Sheet{"aa", "ba"}, "a", []api.Spot{{}, {X: 1}, {X: 1, Y: 1}, {Turn: 1}, {Turn: 1, X: 1}, {Turn: 1, X: 1, Y: 1}, {Turn: 2, X: -1}, {Turn: 2}, {Turn: 2, Y: 1}, {Turn: 3, Y: -1}, {Turn: 3, X: 1, Y: -1}, {Turn: 3, X: 1}}},
		{eight, letters, strings.Join(letters, ""), []api.Spot{{}, {Turn: 1}, {Turn: 2}, {Turn: 3}}}, {api.Sheet{"xx"}, letters, "a", nil},
		{api.Sheet{"........"}, api.Sheet{"xaaaaaay"}, "y", []api.Spot{{X: 7}, {Turn: 1, X: 7, Y: -7}, {Turn: 1, X: 7, Y: -6}, {Turn: 1, X: 7, Y: -5}, {Turn: 1, X: 7, Y: -4}, {Turn: 1, X: 7, Y: -3}, {Turn: 1, X: 7, Y: -2}, {Turn: 1, X: 7, Y: -1}, {Turn: 1, X: 7}, {Turn: 2, X: 7}, {Turn: 3, X: 7, Y: -7}, {Turn: 3, X: 7, Y: -6}, {Turn: 3, X: 7, Y: -5}, {Turn: 3, X: 7, Y: -4}, {Turn: 3, X: 7, Y: -3}, {Turn: 3, X: 7, Y: -2}, {Turn: 3, X: 7, Y: -1}, {Turn: 3, X: 7}}},
	} {
		if l, e := puzzles.Find(c.upper, c.lower, c.word); !slices.Equal(l, c.want) || e != api.OK {
			t.Errorf("%d: Find = %v, %d", i, l, e)
		}
	}
	for _, c := range []struct {
		word string
		e    api.Errno
	}{{"", api.ErrArg}, {"a", api.OK}, {strings.Repeat("z", 64), api.OK}, {strings.Repeat("z", 65), api.ErrArg}, {".", api.ErrArg}, {"A", api.ErrArg}, {"a ", api.ErrArg}, {"`", api.ErrArg}, {"{", api.ErrArg}} {
		l, e := puzzles.Find(api.Sheet{"x"}, letters, c.word)
		fails(t, c.word, l == nil, e, c.e)
	}
}

// P3.6: which sheets are valid; their error comes first.
func TestSheetsAreValid(t *testing.T) {
	fine := api.Sheet{"a."}
	for i, c := range []struct {
		s api.Sheet
		e api.Errno
	}{
		{api.Sheet{"a"}, api.OK}, {api.Sheet{"az.", "zza"}, api.OK}, {slices.Repeat([]string{"abcdefgh"}, 8), api.OK}, {slices.Repeat([]string{"a"}, 9), api.ErrGrid}, {api.Sheet{"abcdefghi"}, api.ErrGrid}, {nil, api.ErrGrid}, {api.Sheet{}, api.ErrGrid}, {api.Sheet{""}, api.ErrGrid}, {api.Sheet{"", "a"}, api.ErrGrid}, {api.Sheet{"ab", "c"}, api.ErrGrid}, {api.Sheet{"a", "bc"}, api.ErrGrid}, {api.Sheet{"a", ""}, api.ErrGrid},
		{api.Sheet{"`"}, api.ErrGrid}, {api.Sheet{"{"}, api.ErrGrid}, {api.Sheet{"A"}, api.ErrGrid}, {api.Sheet{"-"}, api.ErrGrid}, {api.Sheet{"/"}, api.ErrGrid}, {api.Sheet{" "}, api.ErrGrid}, {api.Sheet{"é"}, api.ErrGrid}, {api.Sheet{"\xae"}, api.ErrGrid}, {api.Sheet{"ab", "aB"}, api.ErrGrid}, {api.Sheet{"a\x00"}, api.ErrGrid},
	} {
		s, e := puzzles.See(c.s, fine, api.Spot{X: 8})
		fails(t, "See from above", s == "", e, c.e)
		s, e = puzzles.See(fine, c.s, api.Spot{X: 8})
		fails(t, "See below", s == "", e, c.e)
		l, e := puzzles.Find(c.s, fine, "zzz")
		fails(t, "Find from above", l == nil, e, c.e)
		l, e = puzzles.Find(fine, c.s, "zzzzzzzzzzzzzzzz")
		fails(t, "Find below", l == nil, e, c.e)
		if c.e == api.OK {
			continue
		}
		if _, e := puzzles.See(fine, c.s, api.Spot{X: 9}); e != api.ErrGrid {
			t.Errorf("%d: See at a wrong spot: %d", i, e)
		}
		if _, e := puzzles.Find(fine, c.s, ""); e != api.ErrGrid {
			t.Errorf("%d: Find of a wrong word: %d", i, e)
		}
	}
}
