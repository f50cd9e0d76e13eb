package matrix_test

import (
	"errors"
	"math"
	"slices"
	"sync"
	"testing"

	"shardkeep/api"
	"shardkeep/matrix"
	"shardkeep/plain"
)

func cloned(m [][]byte) [][]byte {
	out := slices.Clone(m)
	for i := range out {
		out[i] = slices.Clone(out[i])
	}
	return out
}

// asked calls all that takes matrices, and tells all answers.
func asked(a, b [][]byte) []any {
	product, err1 := matrix.Times(a, b)
	back, err2 := matrix.Invert(a)
	rank, err3 := matrix.Rank(b)
	spread, err4 := matrix.Spread(len(a), len(b))
	powers, err5 := matrix.Powers(len(b), len(a))
	out := []any{product, back, rank, spread, powers}
	for _, err := range []error{err1, err2, err3, err4, err5, matrix.Check(a), matrix.Check(b)} {
		code, at := plain.Code(err)
		out = append(out, code, at)
	}
	return out
}

// P1: that the test ends is what it asks.
func TestEveryCallEnds(t *testing.T) {
	l := [][][]byte{{{0}}, mixed(16, 16, 1), identity(16), mixed(1, 16, 1), mixed(16, 1, 1), ofRank(16, 16, 15, 1), ofRank(16, 16, 0, 1)}
	for _, m := range shapeless() {
		l = append(l, m)
	}
	for _, a := range l {
		for _, b := range l {
			asked(a, b)
		}
	}
	numbers := []int{math.MinInt, -1, 0, 1, 12, 13, math.MaxInt}
	for _, n := range numbers {
		for _, k := range numbers {
			matrix.Powers(n, k)
			matrix.Spread(n, k)
		}
	}
}

// P2
func TestAnswersHangOnNothingElse(t *testing.T) {
	a, b := mixed(9, 9, 1), mixed(9, 4, 2)
	want := asked(a, b)
	var answers [16][]any
	var wait sync.WaitGroup
	for i := range answers {
		wait.Go(func() {
			asked(mixed(i, i+1, 3), ofRank(i+1, i+2, i, 4))
			answers[i] = asked(a, b)
		})
	}
	wait.Wait()
	for i, got := range answers {
		if !alike(got, want) {
			t.Errorf("worker %d was told otherwise", i)
		}
	}
}

// P3: no place is told in this chapter.
func TestErrorsAreBare(t *testing.T) {
	_, shape1 := matrix.Times([][]byte{{1}}, [][]byte{{1}, {1}})
	_, shape2 := matrix.Invert([][]byte{{1, 2}})
	_, shape3 := matrix.Rank(nil)
	_, zero := matrix.Invert([][]byte{{0}})
	_, bound1 := matrix.Powers(0, 0)
	_, bound2 := matrix.Spread(13, 3)
	for i, c := range [][2]error{{shape1, api.ErrShape}, {shape2, api.ErrShape}, {shape3, api.ErrShape}, {matrix.Check(nil), api.ErrShape}, {zero, api.ErrZero}, {bound1, api.ErrBound}, {bound2, api.ErrBound}} {
		var fault *api.Fault
		if c[0] != c[1] || errors.As(c[0], &fault) {
			t.Errorf("error %d is %v, want %v bare", i, c[0], c[1])
		}
	}
}

// behind has m with other rows and bytes behind its lengths.
func behind(m [][]byte) [][]byte {
	out := make([][]byte, 0, len(m)+2)
	for _, row := range m {
		out = append(out, append(slices.Clone(row), 7, 8, 9)[:len(row)])
	}
	return append(out, []byte{1, 2, 3}, nil)[:len(m)]
}

// uncovered has a matrix of m's memory, up to what it can grow to.
func uncovered(m [][]byte) [][]byte {
	m = slices.Clone(m[:cap(m)])
	for i := range m {
		m[i] = m[i][:cap(m[i])]
	}
	return m
}

// P3
func TestWhatLiesBehindALengthIsNotThere(t *testing.T) {
	for _, size := range [][2]int{{1, 1}, {3, 3}, {3, 5}, {5, 3}, {16, 16}, {2, 0}, {0, 0}} {
		a, b := mixed(size[0], size[1], 5), mixed(size[1], size[0], 6)
		a2, b2 := behind(a), behind(b)
		before1, before2 := cloned(uncovered(a2)), cloned(uncovered(b2))
		if got, want := asked(a2, b2), asked(a, b); !alike(got, want) {
			t.Errorf("%v: told %v, want %v", size, got, want)
		}
		if !same(uncovered(a2), before1) || !same(uncovered(b2), before2) {
			t.Errorf("%v: a list was written into, or what lies behind it", size)
		}
	}
}

// P4: the same row twice in what is handed over, and a matrix with itself.
func TestMatricesAreOnlyReadAndNotKept(t *testing.T) {
	row := []byte{1, 2, 3}
	for name, m := range map[string][][]byte{
		"ordinary":      mixed(6, 6, 2),
		"turned around": {{0, 0, 3}, {0, 2, 0}, {1, 0, 0}},
		"rows as one":   {row, {4, 5, 7}, row},
		"no inverse":    ofRank(6, 6, 3, 2),
		"wrong":         {{1, 2}, {3}},
	} {
		before := cloned(m)
		first := asked(m, m)
		if !same(m, before) {
			t.Errorf("%s: written into", name)
		}
		for _, row := range m {
			for j := range row {
				row[j] ^= byte(91 + j)
			}
		}
		if !alike(asked(before, before), first) {
			t.Errorf("%s: a change of it shows in a call of another one", name)
		}
	}
}

// P4: what is written into an answer, also behind its lists, shows nowhere.
func TestAnswersAreNewMemory(t *testing.T) {
	m := ofRank(5, 5, 5, 1)
	before := cloned(m)
	for name, f := range map[string]func() ([][]byte, error){
		"Times":        func() ([][]byte, error) { return matrix.Times(m, m) },
		"Times one":    func() ([][]byte, error) { return matrix.Times(m, identity(5)) },
		"one Times":    func() ([][]byte, error) { return matrix.Times(identity(5), m) },
		"Invert":       func() ([][]byte, error) { return matrix.Invert(m) },
		"Powers":       func() ([][]byte, error) { return matrix.Powers(12, 5) },
		"Spread":       func() ([][]byte, error) { return matrix.Spread(12, 5) },
		"Spread of 1":  func() ([][]byte, error) { return matrix.Spread(12, 1) },
		"Spread alike": func() ([][]byte, error) { return matrix.Spread(5, 5) },
	} {
		got, err := f()
		if err != nil {
			t.Fatalf("%s: %v", name, err)
		}
		want := cloned(got)
		for i := range got {
			grown := append(got[i], 201, 202, 203)
			for j := range grown {
				grown[j] ^= 255
			}
			for j := range got[i] {
				got[i][j] = ^want[i][j]
			}
			for l := i + 1; l < len(got); l++ {
				if !slices.Equal(got[l], want[l]) {
					t.Errorf("%s: row %d shows what was written into row %d", name, l, i)
				}
			}
		}
		if again, err := f(); !same(again, want) || err != nil {
			t.Errorf("%s: a second call shows what was written: %v, %v", name, again, err)
		}
		if !same(m, before) {
			t.Errorf("%s: what was handed over shows what was written", name)
		}
	}
}
