package side_test

import (
	"math"
	"math/rand/v2"
	"reflect"
	"slices"
	"strings"
	"sync"
	"testing"
	"testing/synctest"

	"shardkeep/api"
	"shardkeep/plain"
	"shardkeep/play"
	"shardkeep/side"
	"shardkeep/world"
)

// P1: that the test ends is what it asks.
func TestEveryCallEnds(t *testing.T) {
	numbers := []int{math.MinInt, -1, 0, 1, 2, 5, 12, 13, 1000, 1001, math.MaxInt}
	for _, n := range numbers {
		for _, k := range numbers {
			for _, workers := range numbers {
				q := question{n: n, k: k}
				q.asked(workers)
				q = question{n, k, []string{"", long()}, []int{math.MinInt, math.MaxInt}, [][]api.Shard{nil, {{At: math.MinInt}, {At: math.MaxInt}}}, five(), [][]int{nil, {math.MinInt, math.MaxInt, 6}}}
				q.asked(workers)
				q = question{n, k, make([]string, 1<<12), make([]int, 1<<12), make([][]api.Shard, 1<<12), make([]string, 1<<12), make([][]int, 1<<12)}
				q.asked(workers)
			}
		}
	}
}

// P1: of the greatest things, too.
func TestEveryCallOfGreatThingsEnds(t *testing.T) {
	q := question{5, 2, []string{strings.Repeat("\xff", 1<<24)}, []int{1000}, [][]api.Shard{make([]api.Shard, 1<<18)}, five(), slices.Repeat([][]int{make([]int, 1<<16)}, 100)}
	q.asked(1)
	q.asked(16)
	q.nodes = []string{strings.Repeat("n", 1<<24)}
	q.asked(16)
}

// P1, P2: no worker is left waiting behind a call, whatever it answers: in a bubble one who is would be told.
func TestNoWorkerIsLeft(t *testing.T) {
	for _, workers := range []int{-1, 0, 1, 2, 7, 16, 17} {
		for _, count := range []int{0, 1, 5, 16, 100, 101} {
			synctest.Test(t, func(t *testing.T) {
				q := usual(t, count)
				q.asked(workers)
				q.n = 13
				q.asked(workers)
				q.n, q.nodes = 5, nil
				for i := range q.sizes {
					q.sizes[i] = -1
				}
				q.asked(workers)
			})
		}
	}
}

// P2: answers hang on what a call is given, whatever else is asked side by side with it.
func TestAnswersHangOnNothingElse(t *testing.T) {
	q := usual(t, 30)
	other := usual(t, 25)
	other.objects[7], other.sizes[9] = long(), -1
	want := q.asked(3)
	var told [16]answers
	var wait sync.WaitGroup
	for i := range told {
		wait.Go(func() {
			other.asked(1 + (i+5)%16)
			told[i] = q.asked(1 + i)
		})
	}
	wait.Wait()
	for i, got := range told {
		if !reflect.DeepEqual(got, want) {
			t.Errorf("call %d was told otherwise", i)
		}
	}
}

// P3, P5: errors by their numbers and texts, with their places.
func TestErrorsByNumbers(t *testing.T) {
	_, shape := side.Encode(3, 2, nil, 17)
	_, bound := side.Encode(3, 2, make([]string, 101), 1)
	_, boundAt := side.Encode(3, 2, []string{"", "", long()}, 2)
	_, shapeAt := side.Decode(3, 2, []int{0}, [][]api.Shard{{{At: 3}}}, 2)
	_, fewAt := side.Decode(1, 1, []int{0, 0}, [][]api.Shard{{{}}, nil}, 16)
	_, few := side.Plays(five(), 6, 1, nil, 1)
	_, nameAt := side.Plays([]string{"a", "b", "!"}, 1, 1, nil, 1)
	_, existAt := side.Plays([]string{"a", "b", "d", "b"}, 1, 1, make([][]int, 9), 1)
	for i, x := range []struct {
		err      error
		code, at int
		text     string
	}{
		{shape, 3, -1, "shardkeep: shape"}, {bound, 2, -1, "shardkeep: bound"}, {boundAt, 2, 2, "shardkeep: bound"},
		{shapeAt, 3, 0, "shardkeep: shape"}, {fewAt, 8, 1, "shardkeep: few"}, {few, 8, -1, "shardkeep: few"},
		{nameAt, 4, 2, "shardkeep: name"}, {existAt, 6, 3, "shardkeep: exist"},
	} {
		if code, at := plain.Code(x.err); code != x.code || at != x.at || x.err.Error() != x.text {
			t.Errorf("call %d: error %d at %d, %v, want %d at %d", i, code, at, x.err, x.code, x.at)
		}
	}
}

// P3: what lies behind a length is neither read nor written.
func TestWhatLiesBehindIsNotThere(t *testing.T) {
	q := usual(t, 100)
	for _, length := range []int{0, 1, 16, 60} {
		cut := question{
			q.n, q.k, slices.Clone(q.objects[:length]), slices.Clone(q.sizes[:length]),
			slices.Clone(q.shards[:length]), five(), slices.Clone(q.scripts[:length]),
		}
		want := cut.asked(4)
		long := usual(t, 100)
		long.objects, long.sizes, long.shards, long.scripts = long.objects[:length], long.sizes[:length], long.shards[:length], long.scripts[:length]
		long.nodes = append(five(), "none!", "", "e")[:5]
		if got := long.asked(4); !reflect.DeepEqual(got, want) {
			t.Errorf("%d, and more behind them: told otherwise", length)
		}
		long.objects, long.sizes, long.shards, long.scripts = long.objects[:100], long.sizes[:100], long.shards[:100], long.scripts[:100]
		long.nodes = long.nodes[:8]
		whole := usual(t, 100)
		whole.nodes = append(five(), "none!", "", "e")
		if !reflect.DeepEqual(long, whole) {
			t.Errorf("%d, and more behind them: written into", length)
		}
	}
}

// P4: what is handed over is only read.
func TestWhatIsHandedOverIsOnlyRead(t *testing.T) {
	q, twin := usual(t, 100), usual(t, 100)
	for _, workers := range []int{1, 7, 16, 17} {
		q.asked(workers)
		if !reflect.DeepEqual(q, twin) {
			t.Fatalf("%s: written into", name(workers))
		}
	}
}

// P4: a change behind a call shows in no answer.
func TestWhatIsHandedOverIsNotKept(t *testing.T) {
	q := usual(t, 50)
	want := usual(t, 50).asked(1)
	got := q.asked(5)
	for i := range q.objects {
		clear(q.shards[i])
		clear(q.scripts[i])
	}
	clear(q.objects)
	clear(q.sizes)
	clear(q.shards)
	clear(q.nodes)
	clear(q.scripts)
	if !reflect.DeepEqual(got, want) {
		t.Error("a change shows in answers")
	}
	if got := usual(t, 50).asked(5); !reflect.DeepEqual(got, want) {
		t.Error("a change shows in a later call")
	}
}

// P4: one list handed over many times, and one of whose pieces overlap, are read by many at one time.
func TestOneThingManyTimes(t *testing.T) {
	r := rand.New(rand.NewPCG(15, 4))
	script := scripts(4, 1)[0]
	shards := spread(t, 5, 2, []string{"an object"})[0]
	q := question{n: 5, k: 2, nodes: five()}
	for range 100 {
		q.objects = append(q.objects, "an object")
		q.sizes = append(q.sizes, 9)
		q.shards = append(q.shards, shards[r.IntN(3):])
		q.scripts = append(q.scripts, script[r.IntN(len(script)):])
	}
	a := alike(t, q)
	for i := range 100 {
		w, err := world.New(q.nodes, 5, 2)
		if err != nil {
			t.Fatal(err)
		}
		steps := play.Play(w, q.scripts[i])
		if a.texts[i] != "an object" || !slices.Equal(a.shards[i], shards) || a.told[i].Steps != steps || !slices.Equal(a.told[i].Events, w.Events()) {
			t.Errorf("told otherwise at %d", i)
		}
	}
}

// P4: what is written into an answer, also behind it, shows nowhere else in it, nor in another one.
func TestAnswersAreNewMemory(t *testing.T) {
	q := usual(t, 20)
	for i := range q.objects {
		q.objects[i], q.scripts[i] = "one object", append(settled(16), settled()...)
	}
	want, a, rest := q.asked(4), q.asked(4), q.asked(4)
	for i := range 20 {
		a.shards[i][0] = api.Shard{At: -1, Text: "none"}
		_ = append(a.shards[i], api.Shard{At: -2})
		a.told[i].Events[0] = world.Event{Who: -1}
		_ = append(a.told[i].Events, world.Event{Who: -2})
		if i+1 < 20 && (!reflect.DeepEqual(a.shards[i+1:], want.shards[i+1:]) || !reflect.DeepEqual(a.told[i+1:], want.told[i+1:])) {
			t.Fatalf("what is written at %d shows in one behind it", i)
		}
	}
	clear(a.shards)
	clear(a.texts)
	clear(a.told)
	if !reflect.DeepEqual(rest, want) || !reflect.DeepEqual(q.asked(4), want) {
		t.Error("what is written into an answer shows in another one")
	}
}

// P4: what is written into an error does not show in another one.
func TestErrorsAreNewMemory(t *testing.T) {
	ask := func() error {
		_, err := side.Encode(3, 2, []string{"", long()}, 2)
		return err
	}
	fault, ok := ask().(*api.Fault)
	if !ok {
		t.Fatal("no fault")
	}
	fault.At, fault.Err = 99, api.ErrText
	if code, at := plain.Code(ask()); code != 2 || at != 1 {
		t.Errorf("error %d at %d", code, at)
	}
}
