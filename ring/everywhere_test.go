package ring_test

import (
	"math"
	"slices"
	"strings"
	"sync"
	"testing"
	"unsafe"

	"shardkeep/plain"
	"shardkeep/ring"
)

// answers are what all calls tell.
type answers struct {
	nodes   []string
	changes []ring.Change
	codes   [6]int
}

func (a answers) same(b answers) bool {
	return slices.Equal(a.nodes, b.nodes) && sameChanges(a.changes, b.changes) && a.codes == b.codes
}

// asked calls all that there is.
func asked(old, now, keys []string, key string, n int) answers {
	var a answers
	var err error
	a.codes[0], a.codes[1] = plain.Code(ring.Check(now))
	a.nodes, err = ring.Prefer(now, key, n)
	a.codes[2], a.codes[3] = plain.Code(err)
	a.changes, err = ring.Moves(old, now, keys, n)
	a.codes[4], a.codes[5] = plain.Code(err)
	return a
}

// P1: that the test ends is what it asks.
func TestEveryCallEnds(t *testing.T) {
	lists := [][]string{nil, {}, {""}, {"a"}, {"a", "b", "c"}, {"a", "a"}, {"\xff"}, named(16), make([]string, 17), make([]string, 100000)}
	for _, old := range lists {
		for _, now := range lists {
			for _, keys := range append(lists, keyed(200)) {
				for _, n := range []int{math.MinInt, -1, 0, 1, 3, 16, 17, math.MaxInt} {
					asked(old, now, keys, "key", n)
				}
			}
		}
	}
	long := strings.Repeat("\xff\x00", 1<<18)
	asked(named(16), []string{long}, []string{long, long}, long, 1)
	asked(named(16), named(3), []string{long, long}, long, 3)
}

// P2
func TestAnswersHangOnNothingElse(t *testing.T) {
	old, now, keys := named(7), named(9), keyed(50)
	want := asked(old, now, keys, "key", 4)
	var told [16]answers
	var wait sync.WaitGroup
	for i := range told {
		wait.Go(func() {
			asked(named(i), now, keyed(i), keys[i], i)
			told[i] = asked(old, now, keys, "key", 4)
		})
	}
	wait.Wait()
	for i, got := range told {
		if !got.same(want) {
			t.Errorf("worker %d was told otherwise", i)
		}
	}
}

// P3, P5: errors are 2, 4, 6 and 8, of names with their place.
func TestErrorsByNumbers(t *testing.T) {
	for _, c := range []struct {
		nodes []string
		n     int
		want  [6]int
	}{
		{nil, 1, [6]int{2, -1, 2, -1, 2, -1}},
		{[]string{"a", ""}, 1, [6]int{4, 1, 4, 1, 4, 1}},
		{[]string{"a", "b", "a"}, 1, [6]int{6, 2, 6, 2, 6, 2}},
		{[]string{"a"}, 2, [6]int{0, -1, 8, -1, 8, -1}},
		{[]string{"a"}, -1, [6]int{0, -1, 2, -1, 2, -1}},
	} {
		got := asked(named(3), c.nodes, keyed(3), "key", c.n)
		if got.codes != c.want || len(got.nodes) != 0 || len(got.changes) != 0 {
			t.Errorf("%q, %d: told %v, %q, %q, want %v alone", c.nodes, c.n, got.codes, got.nodes, got.changes, c.want)
		}
	}
}

// P3
func TestWhatLiesBehindALengthIsNotThere(t *testing.T) {
	full := append(named(6), "A", named(1)[0])
	keys := keyed(20)
	for length := range 7 {
		long, longKeys := slices.Clone(full), slices.Clone(keys)
		got := asked(long[:length], long[:length], longKeys[:length], "key", 2)
		want := asked(slices.Clip(named(length)), slices.Clip(named(length)), slices.Clip(keyed(length)), "key", 2)
		if !got.same(want) {
			t.Errorf("%d nodes and keys, and more behind them: told %v, want %v", length, got, want)
		}
		if !slices.Equal(long, full) || !slices.Equal(longKeys, keys) {
			t.Errorf("%d nodes and keys, and more behind them: written into", length)
		}
	}
}

// P3
func TestNilAndEmptyAreOneThing(t *testing.T) {
	fine := named(3)
	for _, c := range [][2]answers{
		{asked(nil, fine, keyed(3), "key", 1), asked([]string{}, fine, keyed(3), "key", 1)},
		{asked(fine, nil, keyed(3), "key", 1), asked(fine, []string{}, keyed(3), "key", 1)},
		{asked(fine, fine, nil, "key", 1), asked(fine, fine, []string{}, "key", 1)},
	} {
		if !c[0].same(c[1]) {
			t.Errorf("told %v and %v", c[0], c[1])
		}
	}
}

// P4
func TestListsAreOnlyReadAndNotKept(t *testing.T) {
	for name, now := range map[string][]string{"more": named(8), "others": {"z", "y", "x", "w"}, "no name": {"z", "y", ""}, "twice": {"z", "y", "z"}, "fewer": named(2)} {
		old, keys := []string{"z", "b", "y", "a"}, keyed(30)
		slices.Reverse(now)
		beforeNow := slices.Clone(now)
		first := asked(old, now, keys, "key", 3)
		if !slices.Equal(old, []string{"z", "b", "y", "a"}) || !slices.Equal(now, beforeNow) || !slices.Equal(keys, keyed(30)) {
			t.Errorf("%s: written into", name)
		}
		clear(old)
		clear(now)
		clear(keys)
		if again := asked([]string{"z", "b", "y", "a"}, beforeNow, keyed(30), "key", 3); !again.same(first) {
			t.Errorf("%s: told %v, ahead of it %v", name, again, first)
		}
	}
}

// P4: each list of an answer is written into, and grown; no other one changes.
func TestListsOfAnswersAreNewMemory(t *testing.T) {
	old, now, keys := named(4), append(named(8)[4:], "a"), append(keyed(5), keyed(5)...)
	want := asked(old, now, keys, "key", 3)
	got := asked(old, now, keys, "key", 3)
	lists := [][]string{got.nodes}
	for _, change := range got.changes {
		lists = append(lists, change.From, change.To)
	}
	if len(lists) != 21 {
		t.Fatalf("%d lists: the rings are of no use here", len(lists))
	}
	for i, list := range lists {
		clear(list)
		for j, other := range lists {
			if j > i && slices.Contains(other, "") {
				t.Errorf("lists %d and %d share memory", i, j)
			}
		}
		_ = append(list, "more")
	}
	if !slices.Equal(old, named(4)) || !slices.Equal(now, append(named(8)[4:], "a")) || !asked(old, now, keys, "key", 3).same(want) {
		t.Error("what was written into an answer shows")
	}
}

// overlap tells whether two texts share memory.
func overlap(a, b string) bool {
	if a == "" || b == "" {
		return false
	}
	atA, atB := uintptr(unsafe.Pointer(unsafe.StringData(a))), uintptr(unsafe.Pointer(unsafe.StringData(b)))
	return atA < atB+uintptr(len(b)) && atB < atA+uintptr(len(a))
}

// P4
func TestTextsOfAnswersAreNewMemory(t *testing.T) {
	old, now, keys := named(4), named(8)[3:], keyed(10)
	got := asked(old, now, keys, keys[0], 3)
	texts := got.nodes
	for _, change := range got.changes {
		texts = slices.Concat(texts, []string{change.Key}, change.From, change.To)
	}
	for i, text := range texts {
		for _, given := range slices.Concat(old, now, keys) {
			if overlap(text, given) {
				t.Errorf("%q shares memory with %q, which was handed over", text, given)
			}
		}
		for _, other := range texts[i+1:] {
			if overlap(text, other) {
				t.Errorf("%q and %q of one answer share memory", text, other)
			}
		}
	}
	if len(got.nodes) != 3 || len(got.changes) == 0 {
		t.Error("the rings are of no use here")
	}
}
