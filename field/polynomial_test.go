package field_test

import (
	"testing"

	"shardkeep/api"
	"shardkeep/field"
)

// bytesOf makes a list of n bytes that hangs on seed alone.
func bytesOf(n int, seed uint32) []byte {
	l := make([]byte, n)
	for i := range l {
		seed = seed*1664525 + 1013904223
		l[i] = byte(seed >> 24)
	}
	return l
}

// pointsOf makes n bytes, n at most 256, no two alike and not in order.
func pointsOf(n int) []byte {
	l := make([]byte, n)
	for i := range l {
		l[i] = byte(i*77 + 13)
	}
	return l
}

func evalAll(p, xs []byte) []byte {
	ys := make([]byte, len(xs))
	for i, x := range xs {
		ys[i] = field.Eval(p, x)
	}
	return ys
}

// P11
func TestEvalIsTheSumOfPowers(t *testing.T) {
	for _, n := range []int{0, 1, 2, 3, 10, 255, 256, 300} {
		p := bytesOf(n, uint32(n))
		for x := range 256 {
			want, power := byte(0), byte(1)
			for _, c := range p {
				want ^= slowMul(c, power)
				power = slowMul(power, byte(x))
			}
			if got := field.Eval(p, byte(x)); got != want {
				t.Fatalf("Eval of %d coefficients at %d = %d, want %d", n, x, got, want)
			}
		}
	}
}

// P11
func TestEvalTakesTheLowestFirst(t *testing.T) {
	for _, c := range []struct {
		p       []byte
		x, want byte
	}{
		{[]byte{7, 1, 3}, 0, 7},
		{[]byte{7, 1, 3}, 1, 5},
		{[]byte{7, 1, 3}, 2, 7 ^ 2 ^ 12},
		{[]byte{0, 1}, 200, 200},
		{[]byte{0, 0, 0, 0, 0, 0, 0, 0, 1}, 2, 29},
		{[]byte{9}, 77, 9},
		{[]byte{}, 9, 0},
		{nil, 9, 0},
		{nil, 0, 0},
	} {
		if got := field.Eval(c.p, c.x); got != c.want {
			t.Errorf("Eval(%v, %d) = %d, want %d", c.p, c.x, got, c.want)
		}
	}
}

// P11
func TestBetweenFindsThePolynomialAgain(t *testing.T) {
	for _, n := range []int{1, 2, 3, 7, 12, 40, 255, 256} {
		p := bytesOf(n, uint32(n)+5)
		xs := pointsOf(n)
		ys := evalAll(p, xs)
		for x := 0; x < 256; x += 1 + n/20 {
			got, err := field.Between(xs, ys, byte(x))
			if want := field.Eval(p, byte(x)); got != want || err != nil {
				t.Fatalf("Between %d points at %d = %d, %v, want %d", n, x, got, err, want)
			}
		}
	}
}

// P11
func TestBetweenIsOfLeastDegree(t *testing.T) {
	p := []byte{31, 7}
	xs := pointsOf(20)
	ys := evalAll(p, xs)
	for x := range 256 {
		got, err := field.Between(xs, ys, byte(x))
		if want := field.Eval(p, byte(x)); got != want || err != nil {
			t.Fatalf("Between 20 points of a line at %d = %d, %v, want %d", x, got, err, want)
		}
	}
}

// P11
func TestBetweenHasItsPoints(t *testing.T) {
	for _, n := range []int{1, 2, 5, 33, 256} {
		xs, ys := pointsOf(n), bytesOf(n, 99)
		for i := 0; i < n; i += 1 + n/20 {
			if got, err := field.Between(xs, ys, xs[i]); got != ys[i] || err != nil {
				t.Fatalf("Between %d points at %d = %d, %v, want %d", n, xs[i], got, err, ys[i])
			}
		}
	}
}

// P11
func TestBetweenOfNoneAndOfOne(t *testing.T) {
	for x := range 256 {
		for _, l := range [][2][]byte{{nil, nil}, {{}, {}}, {nil, {}}, {{}, nil}} {
			if got, err := field.Between(l[0], l[1], byte(x)); got != 0 || err != nil {
				t.Errorf("Between none at %d = %d, %v, want 0", x, got, err)
			}
		}
		if got, err := field.Between([]byte{0}, []byte{8}, byte(x)); got != 8 || err != nil {
			t.Errorf("Between one point at %d = %d, %v, want 8", x, got, err)
		}
	}
}

// P11, and P3: the shape is told ahead of what is there twice.
func TestBetweenOfWrongPoints(t *testing.T) {
	for _, c := range []struct {
		name   string
		xs, ys []byte
		want   error
	}{
		{"no ys", []byte{1, 2}, nil, api.ErrShape},
		{"no xs", nil, []byte{1}, api.ErrShape},
		{"one too few", []byte{1, 2, 3}, []byte{1, 2}, api.ErrShape},
		{"one too many", []byte{1, 2}, []byte{1, 2, 3}, api.ErrShape},
		{"too few, and twice", []byte{1, 1, 3}, []byte{1, 2}, api.ErrShape},
		{"too many, and twice", []byte{1, 1}, []byte{1, 2, 3}, api.ErrShape},
		{"first and last", []byte{1, 2, 1}, []byte{1, 2, 3}, api.ErrExist},
		{"side by side at the end", []byte{4, 0, 0}, []byte{1, 2, 3}, api.ErrExist},
		{"twice with the same y", []byte{255, 255}, []byte{6, 6}, api.ErrExist},
		{"twice with y 0", []byte{3, 3}, []byte{0, 0}, api.ErrExist},
		{"more than there are bytes", append(pointsOf(256), 9), bytesOf(257, 1), api.ErrExist},
		{"many too many", bytesOf(1<<20, 3), bytesOf(1<<20, 4), api.ErrExist},
	} {
		for _, x := range []byte{0, 1, 3, 200, 255} {
			if got, err := field.Between(c.xs, c.ys, x); got != 0 || err != c.want {
				t.Errorf("%s: Between at %d = %d, %v, want %v", c.name, x, got, err, c.want)
			}
		}
	}
}
