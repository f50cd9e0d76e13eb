package side_test

import (
	"math/rand/v2"
	"reflect"
	"slices"
	"testing"

	"shardkeep/api"
	"shardkeep/side"
)

// answers are what all calls tell, with their errors.
type answers struct {
	shards  [][]api.Shard
	texts   []string
	told    []side.Told
	encoded error
	decoded error
	played  error
}

// question has what all calls are asked, but by how many.
type question struct {
	n, k    int
	objects []string
	sizes   []int
	shards  [][]api.Shard
	nodes   []string
	scripts [][]int
}

func (q question) asked(workers int) answers {
	var a answers
	a.shards, a.encoded = side.Encode(q.n, q.k, q.objects, workers)
	a.texts, a.decoded = side.Decode(q.n, q.k, q.sizes, q.shards, workers)
	a.told, a.played = side.Plays(q.nodes, q.n, q.k, q.scripts, workers)
	return a
}

// usual is a question of much, all of which is right.
func usual(t *testing.T, count int) question {
	t.Helper()
	l := objects(count)
	return question{5, 3, l, sizesOf(l), spread(t, 5, 3, l), five(), scripts(uint64(count), count)}
}

// alike asks for the same answers by however many.
func alike(t *testing.T, q question) answers {
	t.Helper()
	want := q.asked(1)
	for workers := 2; workers <= api.Workers; workers++ {
		if got := q.asked(workers); !reflect.DeepEqual(got, want) {
			t.Fatalf("%s tell otherwise than one, of %d objects", name(workers), len(q.objects))
		}
	}
	return want
}

// P152: however many objects and scripts there are.
func TestByHoweverManyItIsTheSame(t *testing.T) {
	for _, count := range []int{0, 1, 2, 3, 15, 16, 17, 50, 99, 100, 101} {
		a := alike(t, usual(t, count))
		for _, err := range []error{a.encoded, a.decoded, a.played} {
			if (err != nil) != (count > 100) {
				t.Errorf("%d: told %v: of no use", count, err)
			}
		}
	}
}

// P152: errors, too: which of them is told hangs on no worker.
func TestByHoweverManyErrorsAreTheSame(t *testing.T) {
	r := rand.New(rand.NewPCG(15, 152))
	places := map[int]int{}
	for range 30 {
		q := usual(t, 1+r.IntN(100))
		q.scripts = q.scripts[:min(len(q.scripts), 3)]
		for range 1 + r.IntN(4) {
			at := r.IntN(len(q.objects))
			q.objects[at] = long()
			x := wrong()[r.IntN(6)]
			q.sizes[at], q.shards[at] = x.size, x.l
		}
		first := slices.Index(q.objects, long())
		a := alike(t, q)
		for _, err := range []error{a.encoded, a.decoded} {
			if fault, ok := err.(*api.Fault); !ok || fault.At != first {
				t.Errorf("told %v, want a fault at %d", err, first)
			}
		}
		places[first]++
	}
	if len(places) < 15 {
		t.Errorf("%d places: of no use", len(places))
	}
}

// P152: again and again.
func TestAgainAndAgainItIsTheSame(t *testing.T) {
	q := usual(t, 40)
	want := q.asked(16)
	for range 150 {
		if got := q.asked(16); !reflect.DeepEqual(got, want) {
			t.Fatal("told otherwise")
		}
	}
}
