package side_test

import (
	"errors"
	"math"
	"math/rand/v2"
	"strconv"
	"strings"
	"testing"

	"shardkeep/api"
	"shardkeep/coder"
	"shardkeep/play"
	"shardkeep/side"
	"shardkeep/world"
)

// five nodes, in an order that is neither that of their names nor that of the ring.
func five() []string { return []string{"e", "a", "d", "f", "b"} }

// mixed is a text of all kinds of bytes, 0 among them.
func mixed(size, seed int) string {
	text := make([]byte, size)
	for i := range text {
		text[i] = byte(i*i*7 + i*(31+seed) + seed*59)
	}
	return string(text)
}

// objects are so many, each unlike all others; of some there are no bytes, of some as many as may be.
func objects(count int) []string {
	l := make([]string, count)
	for i := range l {
		l[i] = mixed(i*i%50, i)
		if i%20 == 19 {
			l[i] = mixed(api.MaxText, i)
		}
	}
	return l
}

func sizesOf(l []string) []int {
	sizes := make([]int, len(l))
	for i, s := range l {
		sizes[i] = len(s)
	}
	return sizes
}

// spread has each object's shards, one object behind the other, by coder.
func spread(t *testing.T, n, k int, l []string) [][]api.Shard {
	t.Helper()
	all := make([][]api.Shard, len(l))
	for i, s := range l {
		one, err := coder.Encode(n, k, s)
		if err != nil {
			t.Fatalf("of no use: %v", err)
		}
		all[i] = one
	}
	return all
}

// some of each object's shards, as few as are enough, in any order.
func some(r *rand.Rand, k int, all [][]api.Shard) [][]api.Shard {
	l := make([][]api.Shard, len(all))
	for i, shards := range all {
		for _, at := range r.Perm(len(shards))[:k] {
			l[i] = append(l[i], shards[at])
		}
	}
	return l
}

// scripts are so many, each unlike all others, of which some are nil, some longer than may be, and most lose, double and turn around what flies.
func scripts(seed uint64, count int) [][]int {
	r := rand.New(rand.NewPCG(15, seed))
	kinds := []int{0, 1, 2, 3, 0, 1, 2, 3, 0, 1, 2, 3, 4, 5, 5, 6, 6, 7, 7, 8, 9, 9}
	l := make([][]int, count)
	for i := range l {
		steps := r.IntN(400)
		switch i % 15 {
		case 4:
			steps = 0
		case 9:
			steps = api.MaxSteps + r.IntN(50)
		}
		for range steps {
			v := 10*r.IntN(200) + kinds[r.IntN(len(kinds))]
			if r.IntN(30) == 0 {
				v = -v
			}
			l[i] = append(l[i], v)
		}
	}
	return l
}

// playedAlone is what is told of each script, one world behind the other, by play.
func playedAlone(t *testing.T, nodes []string, n, k int, l [][]int) []side.Told {
	t.Helper()
	told := make([]side.Told, len(l))
	for i, script := range l {
		w, err := world.New(nodes, n, k)
		if err != nil {
			t.Fatalf("of no use: %v", err)
		}
		told[i].Steps = play.Play(w, script)
		told[i].Events = w.Events()
	}
	return told
}

// wants asks for an error: with its place, or bare where at is below 0; and that nothing is told beside it.
func wants[T any](t *testing.T, name string, l []T, err, want error, at int) {
	t.Helper()
	if len(l) != 0 {
		t.Errorf("%s: %d answers beside an error", name, len(l))
	}
	if at < 0 {
		if err != want {
			t.Errorf("%s: told %#v, want %v bare", name, err, want)
		}
		return
	}
	if fault, ok := err.(*api.Fault); !ok || fault.At != at || fault.Err != want || !errors.Is(err, want) {
		t.Errorf("%s: told %#v, want %v at %d", name, err, want, at)
	}
}

// wrongWorkers are no numbers of workers.
func wrongWorkers() []int {
	return []int{math.MinInt, math.MinInt32, -16, -1, 0, 17, 18, 100, 256, 257, 1 << 32, 1<<32 + 1, math.MaxInt}
}

func name(workers int) string { return strconv.Itoa(workers) + " workers" }

// long is more bytes than an object may have.
func long() string { return strings.Repeat("x", api.MaxText+1) }
