package side_test

import (
	"math/rand/v2"
	"slices"
	"testing"

	"shardkeep/api"
	"shardkeep/side"
)

func decodes(t *testing.T, n, k int, sizes []int, l [][]api.Shard, workers int, want []string) {
	t.Helper()
	got, err := side.Decode(n, k, sizes, l, workers)
	if err != nil || !slices.Equal(got, want) {
		t.Errorf("%s: %q, %v, want %q", name(workers), got, err, want)
	}
}

// P150: with all objects spelt out.
func TestDecodeSpeltOut(t *testing.T) {
	ab, cd, en := api.Shard{At: 0, Text: "ab"}, api.Shard{At: 1, Text: "cd"}, api.Shard{At: 2, Text: "en"}
	l := [][]api.Shard{{ab, cd}, {en, cd}, {{At: 2}, {At: 0}}, {ab, en, cd}, {cd, cd, ab}}
	for workers := 1; workers <= api.Workers; workers++ {
		decodes(t, 3, 2, []int{4, 3, 0, 4, 4}, l, workers, []string{"abcd", "abc", "", "abcd", "abcd"})
	}
}

// P150: however many there are, up to 100, and of every shape.
func TestDecodeIsCodersOfEach(t *testing.T) {
	r := rand.New(rand.NewPCG(15, 2))
	for count := range 101 {
		n := 1 + r.IntN(api.MaxShards)
		k := 1 + r.IntN(n)
		l := objects(count)
		decodes(t, n, k, sizesOf(l), some(r, k, spread(t, n, k, l)), 1+count%api.Workers, l)
	}
}

// P150: workers, ahead of how many there are and of what they are.
func TestDecodeByWrongWorkers(t *testing.T) {
	few := make([][]api.Shard, 101)
	for _, workers := range wrongWorkers() {
		for _, count := range []int{0, 1, 2, 100, 101} {
			got, err := side.Decode(3, 2, make([]int, count), few[:count], workers)
			wants(t, name(workers), got, err, api.ErrShape, -1)
			got, err = side.Decode(3, 0, make([]int, count), few[:count], workers)
			wants(t, name(workers), got, err, api.ErrShape, -1)
		}
	}
}

// P150: as many sizes as lists, ahead of how many there are and of what they are.
func TestDecodeOfWrongSizes(t *testing.T) {
	for _, workers := range []int{-1, 0, 1, 2, 16, 17} {
		for _, x := range [][2]int{{0, 1}, {1, 0}, {1, 2}, {2, 1}, {99, 100}, {100, 99}, {100, 101}, {101, 100}, {102, 101}, {0, 101}, {101, 0}} {
			got, err := side.Decode(3, 2, make([]int, x[0]), make([][]api.Shard, x[1]), workers)
			wants(t, name(workers), got, err, api.ErrShape, -1)
			l := spread(t, 3, 2, make([]string, x[1]))
			got, err = side.Decode(3, 2, make([]int, x[0]), l, workers)
			wants(t, name(workers), got, err, api.ErrShape, -1)
		}
	}
}

// P150: more than 100, ahead of what they are.
func TestDecodeOfTooMany(t *testing.T) {
	for _, count := range []int{101, 102, 200, 256, 1 << 16} {
		for _, workers := range []int{1, 2, 16} {
			got, err := side.Decode(3, 2, make([]int, count), make([][]api.Shard, count), workers)
			wants(t, name(workers), got, err, api.ErrBound, -1)
			got, err = side.Decode(1, 1, make([]int, count), slices.Repeat([][]api.Shard{{{}}}, count), workers)
			wants(t, name(workers), got, err, api.ErrBound, -1)
		}
	}
}

// wrong has what is wrong with one object, of five shards of which three are enough, and its error.
func wrong() []struct {
	size int
	l    []api.Shard
	err  error
} {
	return []struct {
		size int
		l    []api.Shard
		err  error
	}{
		{-1, nil, api.ErrBound},
		{api.MaxText + 1, nil, api.ErrBound},
		{0, []api.Shard{{At: 5}}, api.ErrShape},
		{0, []api.Shard{{At: 0, Text: "x"}, {At: 1}, {At: 2}}, api.ErrShape},
		{0, []api.Shard{{At: 0}, {At: 1}, {At: 1}}, api.ErrFew},
		{0, nil, api.ErrFew},
	}
}

// P150: the first object that has an error, with its own error, whichever else have another one.
func TestDecodeOfWrongObjects(t *testing.T) {
	texts := objects(100)
	all := spread(t, 5, 3, texts)
	for _, workers := range []int{1, 2, 5, 16} {
		for first := range 100 {
			sizes, l := sizesOf(texts), slices.Clone(all)
			for at := first; at < 100; at += 1 + first%7 {
				x := wrong()[at%6]
				sizes[at], l[at] = x.size, x.l
			}
			got, err := side.Decode(5, 3, sizes, l, workers)
			wants(t, name(workers), got, err, wrong()[first%6].err, first)
		}
	}
}

// P150: the first one that has an error takes long, those behind it do not.
func TestDecodeOfAnErrorThatTakesLong(t *testing.T) {
	l := make([][]api.Shard, 40)
	l[3] = slices.Repeat([]api.Shard{{At: 1}}, 1<<16)
	for i := range 3 {
		l[i] = []api.Shard{{At: 0}, {At: 2}}
	}
	sizes := slices.Repeat([]int{-1}, 40)
	clear(sizes[:4])
	for workers := 1; workers <= api.Workers; workers++ {
		got, err := side.Decode(3, 2, sizes, l, workers)
		wants(t, name(workers), got, err, api.ErrFew, 3)
	}
}

// P150: what is wrong with n and k is so at the first object; where there is none, nothing is.
func TestDecodeOfWrongShapes(t *testing.T) {
	for _, x := range [][2]int{{0, 0}, {2, 3}, {3, 0}, {13, 2}, {-1, -1}} {
		for _, workers := range []int{1, 2, 16} {
			for _, count := range []int{1, 2, 100} {
				got, err := side.Decode(x[0], x[1], make([]int, count), make([][]api.Shard, count), workers)
				wants(t, name(workers), got, err, api.ErrBound, 0)
			}
			decodes(t, x[0], x[1], nil, nil, workers, nil)
			decodes(t, x[0], x[1], []int{}, [][]api.Shard{}, workers, nil)
			decodes(t, x[0], x[1], nil, [][]api.Shard{}, workers, nil)
		}
	}
}
