package matrix_test

import (
	"math"
	"math/bits"
	"testing"

	"shardkeep/api"
	"shardkeep/field"
	"shardkeep/matrix"
)

// everySize calls f with all n and k that are in bounds.
func everySize(f func(n, k int)) {
	for n := 1; n <= api.MaxShards; n++ {
		for k := 1; k <= n; k++ {
			f(n, k)
		}
	}
}

func slowPowers(n, k int) [][]byte {
	return filled(n, k, func(i, j int) byte {
		power := byte(1)
		for range j {
			power = field.Mul(power, byte(i))
		}
		return power
	})
}

// P21
func TestPowers(t *testing.T) {
	if got, err := matrix.Powers(4, 3); !same(got, [][]byte{{1, 0, 0}, {1, 1, 1}, {1, 2, 4}, {1, 3, 5}}) || err != nil {
		t.Errorf("Powers(4, 3) = %v, %v", got, err)
	}
	if got, err := matrix.Powers(1, 1); !same(got, [][]byte{{1}}) || err != nil {
		t.Errorf("Powers(1, 1) = %v, %v", got, err)
	}
	everySize(func(n, k int) {
		if got, err := matrix.Powers(n, k); !same(got, slowPowers(n, k)) || err != nil {
			t.Errorf("Powers(%d, %d) = %v, %v", n, k, got, err)
		}
	})
}

// P21
func TestSpreadOfFew(t *testing.T) {
	for _, c := range []struct {
		n, k int
		want [][]byte
	}{
		{1, 1, [][]byte{{1}}},
		{4, 1, [][]byte{{1}, {1}, {1}, {1}}},
		{2, 2, [][]byte{{1, 0}, {0, 1}}},
		{3, 2, [][]byte{{1, 0}, {0, 1}, {3, 2}}},
		{4, 2, [][]byte{{1, 0}, {0, 1}, {3, 2}, {2, 3}}},
	} {
		if got, err := matrix.Spread(c.n, c.k); !same(got, c.want) || err != nil {
			t.Errorf("Spread(%d, %d) = %v, %v, want %v", c.n, c.k, got, err, c.want)
		}
	}
}

// P21: Spread is Powers times an inverse just if Spread times what was inverted is Powers.
func TestSpreadIsPowersTimesAnInverse(t *testing.T) {
	everySize(func(n, k int) {
		got, err := matrix.Spread(n, k)
		if err != nil || len(got) != n || len(got[0]) != k {
			t.Fatalf("Spread(%d, %d) = %v, %v", n, k, got, err)
		}
		if !same(got[:k], identity(k)) {
			t.Errorf("Spread(%d, %d) begins with %v", n, k, got[:k])
		}
		if powers := slowPowers(n, k); !same(slowTimes(got, powers[:k]), powers) {
			t.Errorf("Spread(%d, %d) = %v: not what Powers tells", n, k, got)
		}
	})
}

// P21: a row of Spread tells what a polynomial has there, from what it has at 0 to k-1.
func TestSpreadGoesThroughPoints(t *testing.T) {
	everySize(func(n, k int) {
		m, err := matrix.Spread(n, k)
		if err != nil {
			t.Fatalf("Spread(%d, %d): %v", n, k, err)
		}
		xs := make([]byte, k)
		for i := range xs {
			xs[i] = byte(i)
		}
		ys := mixed(1, k, 4)[0]
		for i, row := range m {
			sum := byte(0)
			for j, e := range row {
				sum ^= field.Mul(e, ys[j])
			}
			if want, err := field.Between(xs, ys, byte(i)); sum != want || err != nil {
				t.Errorf("Spread(%d, %d): row %d makes %d, want %d", n, k, i, sum, want)
			}
		}
	})
}

// P21
func TestBoundsOfPowersAndSpread(t *testing.T) {
	far := []int{math.MinInt, math.MinInt + 1, math.MinInt32, -257, -256, -255, -12, 14, 16, 17, 255, 256, 257, 268, math.MaxInt32, math.MaxInt - 1, math.MaxInt}
	var all []int
	for n := -3; n <= api.MaxShards+1; n++ {
		all = append(all, n)
	}
	all = append(all, far...)
	for _, n := range all {
		for _, k := range all {
			var want error
			if k < 1 || k > n || n > 12 {
				want = api.ErrBound
			}
			if got, err := matrix.Powers(n, k); err != want || (got == nil) != (want != nil) {
				t.Errorf("Powers(%d, %d) = %v, %v, want %v", n, k, got, err, want)
			}
			if got, err := matrix.Spread(n, k); err != want || (got == nil) != (want != nil) {
				t.Errorf("Spread(%d, %d) = %v, %v, want %v", n, k, got, err, want)
			}
		}
	}
}

// P22: all choices of k rows, of all n and k.
func TestAnyRowsOfSpreadHaveAnInverse(t *testing.T) {
	everySize(func(n, k int) {
		m, err := matrix.Spread(n, k)
		if err != nil {
			t.Fatalf("Spread(%d, %d): %v", n, k, err)
		}
		for rows := range uint(1) << n {
			if bits.OnesCount(rows) != k {
				continue
			}
			some := part(m, rows, ^uint(0))
			back, err := matrix.Invert(some)
			if err != nil || !same(slowTimes(some, back), identity(k)) {
				t.Errorf("Spread(%d, %d), rows %b: %v, %v", n, k, rows, back, err)
			}
		}
	})
}

// P22: rows are any also when they are turned around.
func TestRowsOfSpreadInAnyOrder(t *testing.T) {
	everySize(func(n, k int) {
		m, err := matrix.Spread(n, k)
		if err != nil {
			t.Fatalf("Spread(%d, %d): %v", n, k, err)
		}
		for first := range n {
			// A step without a divisor that n has goes to no row twice.
			step := 5
			if n%5 == 0 {
				step = 3
			}
			some := filled(k, k, func(i, j int) byte { return m[(first+i*step)%n][j] })
			if rank, err := matrix.Rank(some); rank != k || err != nil {
				t.Errorf("Spread(%d, %d), rows from %d on: rank %d, %v", n, k, first, rank, err)
			}
		}
	})
}
