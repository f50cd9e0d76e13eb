// Package field: a field of bytes: see ../shared/doc/01-field.md.
package field

import "shardkeep/api"

const (
	// x^8 is x^4 + x^3 + x^2 + 1 here: what a bit that leaves the byte leaves behind.
	overflow = 29
	// Every byte but 0 is 1 when it is so many times with itself: powers go round.
	round = 255
)

// Add two bytes. It is also what takes away: every byte is its own opposite.
func Add(a, b byte) byte { return a ^ b }

// Mul two bytes.
func Mul(a, b byte) byte {
	product := byte(0)
	for bit := range 8 {
		if b>>bit&1 == 1 {
			product = Add(product, a)
		}
		a = timesX(a)
	}
	return product
}

// Pow of a byte.
func Pow(a byte, n int) (byte, error) {
	if a == 0 && n < 0 {
		return 0, api.ErrZero
	}
	// The powers of 0 do not go round: only no times with itself it is 1.
	if a == 0 && n > 0 {
		return 0, nil
	}
	return power(a, within(n)), nil
}

// Inv of a byte.
func Inv(a byte) (byte, error) {
	if a == 0 {
		return 0, api.ErrZero
	}
	return inverse(a), nil
}

// Div two bytes.
func Div(a, b byte) (byte, error) {
	if b == 0 {
		return 0, api.ErrZero
	}
	return Mul(a, inverse(b)), nil
}

// Eval a polynomial.
func Eval(p []byte, x byte) byte {
	sum := byte(0)
	for i := range len(p) {
		sum = Add(Mul(sum, x), p[len(p)-1-i])
	}
	return sum
}

// Between points.
func Between(xs, ys []byte, x byte) (byte, error) {
	if len(xs) != len(ys) {
		return 0, api.ErrShape
	}
	if anyTwice(xs) {
		return 0, api.ErrExist
	}
	sum := byte(0)
	for i := range len(xs) {
		sum = Add(sum, Mul(ys[i], share(xs, i, x)))
	}
	return sum, nil
}

func timesX(a byte) byte {
	if a < 128 {
		return a << 1
	}
	return Add(a<<1, overflow)
}

// within takes n into the first round. It takes the rest before the sign, as the least int has no opposite.
func within(n int) int {
	rest := n % round
	if rest < 0 {
		return rest + round
	}
	return rest
}

// power wants n from 0 to 255, so that its eight bits are all there is.
func power(a byte, n int) byte {
	result := byte(1)
	for bit := range 8 {
		if n>>bit&1 == 1 {
			result = Mul(result, a)
		}
		a = Mul(a, a)
	}
	return result
}

// inverse wants an a that is not 0: one step short of the round is the way back.
func inverse(a byte) byte { return power(a, round-1) }

func anyTwice(xs []byte) bool {
	var seen [256]bool
	for _, x := range xs {
		if seen[x] {
			return true
		}
		seen[x] = true
	}
	return false
}

// share is Lagrange's polynomial of one point: 1 there, and 0 at the others. As no two of xs are alike, what it divides by is not 0.
func share(xs []byte, at int, x byte) byte {
	above, below := byte(1), byte(1)
	for i := range len(xs) {
		if i != at {
			above = Mul(above, Add(x, xs[i]))
			below = Mul(below, Add(xs[at], xs[i]))
		}
	}
	return Mul(above, inverse(below))
}
