package puzzles

import (
	"slices"
	"strings"

	"padlock/api"
	"padlock/rules"
)

const (
	// maxSide is how many rows, and how many columns, a sheet may have.
	maxSide = 8
	// farthest is how far a sheet may be moved, in all directions.
	farthest = 8
	// hole is a cell through which one sees what lies below.
	hole = '.'
)

// checkSheets returns ErrGrid unless all sheets are valid.
func checkSheets(sheets ...api.Sheet) api.Errno {
	for _, s := range sheets {
		if !isSheet(s) {
			return api.ErrGrid
		}
	}
	return api.OK
}

func isSheet(s api.Sheet) bool {
	return rules.Within(len(s), 1, maxSide) && rules.Within(len(s[0]), 1, maxSide) &&
		!slices.ContainsFunc(s, func(row string) bool { return len(row) != len(s[0]) || !isRow(row) })
}

func isRow(row string) bool {
	return rules.AreLetters(strings.ReplaceAll(row, string(hole), ""))
}

func isSpot(s api.Spot) bool {
	return rules.Within(s.Turn, 0, sideCount-1) && rules.Within(s.X, -farthest, farthest) && rules.Within(s.Y, -farthest, farthest)
}

// isSeeable reports whether Find takes a word: there are no more letters to be seen than a sheet has cells.
func isSeeable(word string) bool {
	return rules.Within(len(word), 1, maxSide*maxSide) && rules.AreLetters(word)
}

// quarter returns a sheet that is turned by a quarter.
func quarter(s api.Sheet) api.Sheet {
	rows := make(api.Sheet, len(s[0]))
	for r := range rows {
		row := make([]byte, len(s))
		for c := range row {
			row[c] = s[len(s)-1-c][r]
		}
		rows[r] = string(row)
	}
	return rows
}

// seen returns what is seen if the upper sheet, which has been turned, is moved by x and y.
func seen(upper, lower api.Sheet, x, y int) string {
	var text []byte
	for r, row := range upper {
		for c := range len(row) {
			if row[c] != hole || !hasCell(lower, r+y, c+x) {
				continue
			}
			if b := lower[r+y][c+x]; b != hole {
				text = append(text, b)
			}
		}
	}
	return string(text)
}

func hasCell(s api.Sheet, row, column int) bool {
	return rules.Within(row, 0, len(s)-1) && rules.Within(column, 0, len(s[0])-1)
}

// spots returns where just a word is seen.
func spots(upper, lower api.Sheet, word string) []api.Spot {
	var list []api.Spot
	for turn := range sideCount {
		for y := -farthest; y <= farthest; y++ {
			for x := -farthest; x <= farthest; x++ {
				if seen(upper, lower, x, y) == word {
					list = append(list, api.Spot{Turn: turn, X: x, Y: y})
				}
			}
		}
		upper = quarter(upper)
	}
	return list
}
