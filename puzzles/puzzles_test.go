package puzzles_test

import (
	"testing"

	"padlock/api"
)

const (
	least = -1 << 63
	most  = 1<<63 - 1
)

// fails reports if a result is not zero beside an error, or the error is another one (R2).
func fails(t *testing.T, what string, zero bool, e, want api.Errno) {
	t.Helper()
	if e != want || want != api.OK && !zero {
		t.Errorf("%s: error %d, want %d; results zero: %v", what, e, want, zero)
	}
}
