package side_test

import (
	"math/rand/v2"
	"reflect"
	"testing"

	"shardkeep/api"
	"shardkeep/side"
)

func encodes(t *testing.T, n, k int, l []string, workers int, want [][]api.Shard) {
	t.Helper()
	got, err := side.Encode(n, k, l, workers)
	if err != nil || len(got) != len(want) {
		t.Fatalf("%s: %d of %d objects, %v", name(workers), len(got), len(l), err)
	}
	for i := range want {
		if !reflect.DeepEqual(got[i], want[i]) {
			t.Errorf("%s, object %d of %d: %#v, want %#v", name(workers), i, len(l), got[i], want[i])
		}
	}
}

// P150: with all shards spelt out.
func TestEncodeSpeltOut(t *testing.T) {
	for workers := 1; workers <= api.Workers; workers++ {
		encodes(t, 2, 1, []string{"abc"}, workers, [][]api.Shard{{{At: 0, Text: "abc"}, {At: 1, Text: "abc"}}})
		encodes(t, 3, 2, []string{"", "abcd", "x"}, workers, [][]api.Shard{
			{{At: 0}, {At: 1}, {At: 2}},
			{{At: 0, Text: "ab"}, {At: 1, Text: "cd"}, {At: 2, Text: "en"}},
			{{At: 0, Text: "x"}, {At: 1, Text: "\x00"}, {At: 2, Text: "\x88"}},
		})
	}
}

// P150: however many there are, up to 100, and of every shape.
func TestEncodeIsCodersOfEach(t *testing.T) {
	r := rand.New(rand.NewPCG(15, 1))
	for count := range 101 {
		n := 1 + r.IntN(api.MaxShards)
		k := 1 + r.IntN(n)
		l := objects(count)
		encodes(t, n, k, l, 1+count%api.Workers, spread(t, n, k, l))
	}
}

// P150
func TestEncodeOfOneObjectManyTimes(t *testing.T) {
	l := make([]string, 100)
	for i := range l {
		l[i] = "one object"
	}
	encodes(t, 5, 3, l, 7, spread(t, 5, 3, l))
}

// P150: workers, ahead of how many there are and of what they are.
func TestEncodeByWrongWorkers(t *testing.T) {
	for _, workers := range wrongWorkers() {
		for what, l := range map[string][]string{"nil": nil, "one": {"abcd"}, "too long": {long()}, "100": objects(100), "101": objects(101)} {
			got, err := side.Encode(3, 2, l, workers)
			wants(t, what+" by "+name(workers), got, err, api.ErrShape, -1)
			got, err = side.Encode(0, 2, l, workers)
			wants(t, what+" by "+name(workers), got, err, api.ErrShape, -1)
		}
	}
}

// P150: more than 100, ahead of what they are.
func TestEncodeOfTooMany(t *testing.T) {
	for _, count := range []int{101, 102, 200, 256, 1 << 16} {
		for _, workers := range []int{1, 2, 16} {
			got, err := side.Encode(3, 2, make([]string, count), workers)
			wants(t, name(workers), got, err, api.ErrBound, -1)
			l := make([]string, count)
			l[0], l[count-1] = long(), long()
			got, err = side.Encode(3, 2, l, workers)
			wants(t, name(workers), got, err, api.ErrBound, -1)
			got, err = side.Encode(2, 3, l, workers)
			wants(t, name(workers), got, err, api.ErrBound, -1)
		}
	}
}

// P150: the first object that has an error, whichever else have one.
func TestEncodeOfObjectsThatAreTooLong(t *testing.T) {
	for _, workers := range []int{1, 2, 5, 16} {
		for first := range 100 {
			l := objects(100)
			for at := first; at < 100; at += 1 + first%7 {
				l[at] = long()
			}
			got, err := side.Encode(5, 3, l, workers)
			wants(t, name(workers), got, err, api.ErrBound, first)
		}
	}
}

// P150: what is wrong with n and k is so at the first object; where there is none, nothing is.
func TestEncodeOfWrongShapes(t *testing.T) {
	for _, x := range [][2]int{{0, 0}, {2, 3}, {3, 0}, {13, 2}, {-1, -1}} {
		for _, workers := range []int{1, 2, 16} {
			for _, l := range [][]string{{""}, {"abcd", "x"}, objects(100), {"", long()}} {
				got, err := side.Encode(x[0], x[1], l, workers)
				wants(t, name(workers), got, err, api.ErrBound, 0)
			}
			encodes(t, x[0], x[1], nil, workers, nil)
			encodes(t, x[0], x[1], []string{}, workers, nil)
		}
	}
}
