package matrix_test

import (
	"math/bits"
	"reflect"
	"testing"

	"shardkeep/api"
	"shardkeep/field"
	"shardkeep/matrix"
)

// filled makes a matrix by what stands in each row and column.
func filled(rows, columns int, at func(i, j int) byte) [][]byte {
	m := make([][]byte, rows)
	for i := range m {
		m[i] = make([]byte, columns)
		for j := range m[i] {
			m[i][j] = at(i, j)
		}
	}
	return m
}

// mixed makes a matrix that hangs on its size and on seed alone.
func mixed(rows, columns int, seed uint32) [][]byte {
	return filled(rows, columns, func(i, j int) byte {
		seed = seed*1664525 + 1013904223
		return byte(seed >> 24)
	})
}

func identity(side int) [][]byte {
	return filled(side, side, func(i, j int) byte {
		if i == j {
			return 1
		}
		return 0
	})
}

// slowTimes adds up what a's columns and b's rows make together: another order than row by column.
func slowTimes(a, b [][]byte) [][]byte {
	m := filled(len(a), len(b[0]), func(i, j int) byte { return 0 })
	for l := range b {
		for i := range m {
			for j := range m[i] {
				m[i][j] ^= field.Mul(a[i][l], b[l][j])
			}
		}
	}
	return m
}

// part has the rows and columns whose bits are set.
func part(m [][]byte, rows, columns uint) [][]byte {
	var out [][]byte
	for i := range m {
		if rows>>i&1 == 0 {
			continue
		}
		var row []byte
		for j := range m[i] {
			if columns>>j&1 == 1 {
				row = append(row, m[i][j])
			}
		}
		out = append(out, row)
	}
	return out
}

// determinant goes along the first row.
func determinant(m [][]byte) byte {
	if len(m) == 0 {
		return 1
	}
	sum := byte(0)
	for j, e := range m[0] {
		sum ^= field.Mul(e, determinant(part(m, ^uint(1), ^(uint(1)<<j))))
	}
	return sum
}

// slowRank is the side of the greatest square part whose determinant is not 0.
func slowRank(m [][]byte) int {
	best := 0
	for rows := range uint(1) << len(m) {
		for columns := range uint(1) << len(m[0]) {
			side := bits.OnesCount(rows)
			if side > best && side == bits.OnesCount(columns) && determinant(part(m, rows, columns)) != 0 {
				best = side
			}
		}
	}
	return best
}

// ofRank makes a matrix of that rank: each of its two factors has it, as a part of them is 1 in the diagonal and else 0.
func ofRank(rows, columns, rank int, seed uint32) [][]byte {
	if rank == 0 {
		return filled(rows, columns, func(i, j int) byte { return 0 })
	}
	one := identity(rank)
	left, right := mixed(rows, rank, seed), mixed(rank, columns, seed+1)
	copy(left[rows-rank:], one)
	for i := range right {
		copy(right[i][columns-rank:], one[i])
	}
	return slowTimes(left, right)
}

func same(a, b [][]byte) bool { return reflect.DeepEqual(a, b) }

func alike(a, b []any) bool { return reflect.DeepEqual(a, b) }

// P20
func TestEverySizeToMaxSideIsAMatrix(t *testing.T) {
	for rows := 1; rows <= api.MaxSide; rows++ {
		for columns := 1; columns <= api.MaxSide; columns++ {
			if err := matrix.Check(mixed(rows, columns, 1)); err != nil {
				t.Errorf("Check of %d rows of %d bytes: %v", rows, columns, err)
			}
		}
	}
}

// shapeless has what is no matrix.
func shapeless() map[string][][]byte {
	unlike := func(at, length int) [][]byte {
		m := mixed(4, 4, 9)
		m[at] = make([]byte, length)
		return m
	}
	return map[string][][]byte{
		"nil":                          nil,
		"no rows":                      {},
		"one nil row":                  {nil},
		"one row without columns":      {{}},
		"rows without columns":         {{}, nil, {}},
		"as many rows without columns": make([][]byte, api.MaxSide),
		"first row empty":              unlike(0, 0),
		"second row empty":             unlike(1, 0),
		"first row shorter":            unlike(0, 3),
		"first row longer":             unlike(0, 5),
		"inner row shorter":            unlike(2, 3),
		"inner row longer":             unlike(2, 5),
		"last row shorter":             unlike(3, 3),
		"last row longer":              unlike(3, 5),
		"last row nil":                 {{1}, {2}, nil},
		"one row too many":             mixed(api.MaxSide+1, 1, 2),
		"one column too many":          mixed(1, api.MaxSide+1, 2),
		"one too many of both":         mixed(api.MaxSide+1, api.MaxSide+1, 2),
		"a last column too many":       append(mixed(3, api.MaxSide, 2), make([]byte, api.MaxSide+1)),
		"many rows":                    make([][]byte, 1<<20),
		"a great row":                  {make([]byte, 1<<20)},
		"256 rows and one":             mixed(257, 1, 3),
		"256 columns and one":          mixed(1, 257, 3),
	}
}

// P20
func TestWhatIsNoMatrix(t *testing.T) {
	for name, m := range shapeless() {
		if err := matrix.Check(m); err != api.ErrShape {
			t.Errorf("Check of %s: %v", name, err)
		}
		if got, err := matrix.Invert(m); got != nil || err != api.ErrShape {
			t.Errorf("Invert of %s = %v, %v", name, got, err)
		}
		if got, err := matrix.Rank(m); got != 0 || err != api.ErrShape {
			t.Errorf("Rank of %s = %d, %v", name, got, err)
		}
		for side := range api.MaxSide + 2 {
			other := mixed(side, max(side, 1), 4)
			if got, err := matrix.Times(m, other); got != nil || err != api.ErrShape {
				t.Errorf("Times of %s, and of %d rows = %v, %v", name, side, got, err)
			}
			if got, err := matrix.Times(other, m); got != nil || err != api.ErrShape {
				t.Errorf("Times of %d rows, and of %s = %v, %v", side, name, got, err)
			}
		}
		if got, err := matrix.Times(m, m); got != nil || err != api.ErrShape {
			t.Errorf("Times of %s with itself = %v, %v", name, got, err)
		}
	}
}

// P20
func TestTimes(t *testing.T) {
	a, b := [][]byte{{1, 2}, {3, 4}}, [][]byte{{0, 128, 1}, {1, 0, 1}}
	// 2 times 128 is 29, so 3 times 128 is 128 and 29 together.
	if got, err := matrix.Times(a, b); !same(got, [][]byte{{2, 128, 3}, {4, 157, 7}}) || err != nil {
		t.Errorf("Times = %v, %v", got, err)
	}
	for rows := 1; rows <= api.MaxSide; rows += 3 {
		for inner := 1; inner <= api.MaxSide; inner += 3 {
			for columns := 1; columns <= api.MaxSide; columns += 3 {
				a, b := mixed(rows, inner, 5), mixed(inner, columns, 6)
				if got, err := matrix.Times(a, b); !same(got, slowTimes(a, b)) || err != nil {
					t.Errorf("Times of %dx%d, %dx%d = %v, %v", rows, inner, inner, columns, got, err)
				}
			}
		}
	}
}

// P20
func TestTimesOneIsNoChange(t *testing.T) {
	for rows := 1; rows <= api.MaxSide; rows++ {
		for columns := 1; columns <= api.MaxSide; columns++ {
			m := mixed(rows, columns, 7)
			if got, err := matrix.Times(identity(rows), m); !same(got, m) || err != nil {
				t.Errorf("1 times %dx%d = %v, %v", rows, columns, got, err)
			}
			if got, err := matrix.Times(m, identity(columns)); !same(got, m) || err != nil {
				t.Errorf("%dx%d times 1 = %v, %v", rows, columns, got, err)
			}
		}
	}
}

// P20
func TestTimesOfSizesThatDoNotGoTogether(t *testing.T) {
	for columns := 1; columns <= api.MaxSide; columns++ {
		for rows := 1; rows <= api.MaxSide; rows++ {
			if columns == rows {
				continue
			}
			// All but the two sides that meet are alike, in one case as great as either of them.
			for _, other := range []int{1, columns, rows} {
				if got, err := matrix.Times(mixed(other, columns, 1), mixed(rows, other, 2)); got != nil || err != api.ErrShape {
					t.Errorf("Times of %dx%d, %dx%d = %v, %v", other, columns, rows, other, got, err)
				}
			}
		}
	}
}

// P20
func TestInvert(t *testing.T) {
	for _, c := range []struct{ m, want [][]byte }{
		{[][]byte{{1}}, [][]byte{{1}}},
		{[][]byte{{2}}, [][]byte{{142}}},
		{[][]byte{{0, 1}, {1, 0}}, [][]byte{{0, 1}, {1, 0}}},
		{[][]byte{{1, 7}, {0, 1}}, [][]byte{{1, 7}, {0, 1}}},
		{[][]byte{{0, 2, 0}, {0, 0, 1}, {1, 0, 0}}, [][]byte{{0, 0, 1}, {142, 0, 0}, {0, 1, 0}}},
		// The first step makes a 0 where the second would begin.
		{[][]byte{{1, 1, 0}, {1, 1, 1}, {0, 1, 0}}, [][]byte{{1, 0, 1}, {0, 0, 1}, {1, 1, 0}}},
	} {
		if got, err := matrix.Invert(c.m); !same(got, c.want) || err != nil {
			t.Errorf("Invert(%v) = %v, %v, want %v", c.m, got, err, c.want)
		}
	}
}

// P20
func TestInverseTakesBack(t *testing.T) {
	for side := 1; side <= api.MaxSide; side++ {
		for seed := range uint32(20) {
			m := ofRank(side, side, side, seed)
			got, err := matrix.Invert(m)
			if err != nil {
				t.Errorf("Invert of side %d, seed %d: %v", side, seed, err)
				continue
			}
			if !same(slowTimes(m, got), identity(side)) || !same(slowTimes(got, m), identity(side)) {
				t.Errorf("Invert of side %d, seed %d = %v, which does not take back", side, seed, got)
			}
		}
	}
}

// P20
func TestWhatHasNoInverse(t *testing.T) {
	for side := 1; side <= api.MaxSide; side++ {
		for rank := range side {
			if got, err := matrix.Invert(ofRank(side, side, rank, 3)); got != nil || err != api.ErrZero {
				t.Errorf("Invert of side %d, rank %d = %v, %v", side, rank, got, err)
			}
		}
	}
	for _, m := range [][][]byte{{{0}}, {{1, 2}, {2, 4}}, {{0, 0}, {5, 6}}, {{0, 5}, {0, 6}}, {{7, 7}, {7, 7}}, {{1, 2, 3}, {4, 5, 6}, {5, 7, 5}}} {
		if got, err := matrix.Invert(m); got != nil || err != api.ErrZero {
			t.Errorf("Invert(%v) = %v, %v", m, got, err)
		}
	}
}

// P20, and P3: the shape is told ahead of what has no inverse.
func TestInvertOfWhatIsNotSquare(t *testing.T) {
	for rows := 1; rows <= api.MaxSide; rows++ {
		for columns := 1; columns <= api.MaxSide; columns++ {
			if rows == columns {
				continue
			}
			for _, rank := range []int{0, min(rows, columns)} {
				if got, err := matrix.Invert(ofRank(rows, columns, rank, 8)); got != nil || err != api.ErrShape {
					t.Errorf("Invert of %dx%d = %v, %v", rows, columns, got, err)
				}
			}
		}
	}
}

// P20: elements of few kinds, so that all ranks are there.
func TestOfSmallOnesByDeterminants(t *testing.T) {
	seen := map[int]int{}
	for rows := 1; rows <= 4; rows++ {
		for columns := 1; columns <= 4; columns++ {
			for seed := range uint32(60) {
				few := mixed(rows, columns, seed)
				m := filled(rows, columns, func(i, j int) byte { return few[i][j] >> (4 + seed%4) })
				want := slowRank(m)
				seen[want]++
				if got, err := matrix.Rank(m); got != want || err != nil {
					t.Errorf("Rank(%v) = %d, %v, want %d", m, got, err, want)
				}
				if rows != columns {
					continue
				}
				if _, err := matrix.Invert(m); (err == nil) != (want == rows) {
					t.Errorf("Invert(%v): %v, of rank %d", m, err, want)
				}
			}
		}
	}
	for rank := range 5 {
		if seen[rank] == 0 {
			t.Errorf("no matrix of rank %d was asked", rank)
		}
	}
}

// P20
func TestRank(t *testing.T) {
	for rows := 1; rows <= api.MaxSide; rows++ {
		for columns := 1; columns <= api.MaxSide; columns++ {
			for rank := range min(rows, columns) + 1 {
				m := ofRank(rows, columns, rank, uint32(rank))
				if got, err := matrix.Rank(m); got != rank || err != nil {
					t.Errorf("Rank of %dx%d = %d, %v, want %d", rows, columns, got, err, rank)
				}
			}
		}
	}
}

// P20
func TestRankOfOrdinaryOnes(t *testing.T) {
	for _, c := range []struct {
		m    [][]byte
		want int
	}{
		{[][]byte{{0}}, 0},
		{[][]byte{{0, 0, 0}, {0, 0, 0}}, 0},
		{[][]byte{{255}}, 1},
		{[][]byte{{0, 0, 5}}, 1},
		{[][]byte{{0}, {0}, {5}}, 1},
		{[][]byte{{1, 2}, {2, 4}, {4, 8}}, 1},
		{[][]byte{{128, 1}, {29, 2}}, 1},
		{[][]byte{{0, 1, 0}, {0, 0, 1}, {0, 1, 1}}, 2},
		{[][]byte{{0, 0, 1}, {0, 0, 1}, {1, 0, 0}}, 2},
		{[][]byte{{1, 2, 3, 4}, {0, 0, 0, 1}}, 2},
		{identity(16), 16},
	} {
		if got, err := matrix.Rank(c.m); got != c.want || err != nil {
			t.Errorf("Rank(%v) = %d, %v, want %d", c.m, got, err, c.want)
		}
	}
}
