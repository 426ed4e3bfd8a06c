// Package cost: what ways cost, exactly.
package cost

import (
	"cmp"

	"fellrunner/api"
)

// Check a cost: ErrBound: it has too many steps, or fewer than none.
func Check(c api.Cost) error {
	if !within(c.S) || !within(c.D) {
		return api.ErrBound
	}
	return nil
}

func within(steps int) bool { return 0 <= steps && steps <= api.Far }

// Compare two costs: -1: the first one is less; 0: they are the same; 1: it is more. It is exact up to 1024 times Far steps, as a search adds up more than two costs.
func Compare(a, b api.Cost) int {
	straight := int64(a.S) - int64(b.S)
	diagonal := int64(b.D) - int64(a.D)
	// A diagonal step squared is 2, so whole numbers are enough where a float would have to round.
	return cmp.Compare(signedSquare(straight), 2*signedSquare(diagonal))
}

// signedSquare keeps the sign of n, for a square alone would forget which side is ahead.
func signedSquare(n int64) int64 {
	if n < 0 {
		return -n * n
	}
	return n * n
}

// Less: is a cost less than another one?
func Less(a, b api.Cost) bool { return Compare(a, b) < 0 }

// Add two costs.
func Add(a, b api.Cost) api.Cost { return api.Cost{S: a.S + b.S, D: a.D + b.D} }

// Octile cost between two places, if nothing is in the way.
func Octile(x, y, tx, ty int) api.Cost {
	across, down := distance(x, tx), distance(y, ty)
	diagonal := min(across, down)
	return api.Cost{S: max(across, down) - diagonal, D: diagonal}
}

func distance(a, b int) int { return max(a, b) - min(a, b) }
