package coder_test

import (
	"errors"
	"math"
	"slices"
	"sync"
	"testing"

	"shardkeep/api"
	"shardkeep/coder"
	"shardkeep/plain"
)

// answers are what all calls tell, one behind the other.
type answers struct {
	shards []api.Shard
	texts  []string
	flags  []bool
	codes  []int
}

func (a *answers) err(err error) {
	code, at := plain.Code(err)
	a.codes = append(a.codes, code, at)
}

func (a *answers) same(b *answers) bool {
	return slices.Equal(a.shards, b.shards) && slices.Equal(a.texts, b.texts) && slices.Equal(a.flags, b.flags) && slices.Equal(a.codes, b.codes)
}

// asked calls all that there is.
func asked(n, k int, s string, size, at int, l []api.Shard) *answers {
	a := &answers{}
	all, err := coder.Encode(n, k, s)
	a.shards = append(a.shards, all...)
	a.err(err)
	text, err := coder.Decode(n, k, size, l)
	a.texts = append(a.texts, text)
	a.err(err)
	x, err := coder.Rebuild(n, k, size, at, l)
	a.shards = append(a.shards, x)
	a.err(err)
	is, err := coder.Agree(n, k, size, l)
	a.flags = append(a.flags, is)
	a.err(err)
	return a
}

// P1: that the test ends is what it asks.
func TestEveryCallEnds(t *testing.T) {
	numbers := []int{math.MinInt, -1, 0, 1, 2, 3, 12, 13, 1000, 1001, math.MaxInt}
	lists := [][]api.Shard{nil, {}, shards("ab", "cd", "en"), shards("", "", ""), {{At: math.MinInt}, {At: math.MaxInt, Text: "ab"}}, {{At: -1}, {}, {}}}
	for _, n := range numbers {
		for _, k := range numbers {
			for _, size := range append(numbers, 4) {
				for _, at := range numbers {
					for _, l := range lists {
						asked(n, k, "abcd", size, at, l)
					}
				}
			}
		}
	}
	asked(12, 1, mixed(100000, 1), 1000, 0, slices.Repeat([]api.Shard{{At: 5, Text: mixed(1000, 1)}}, 10000))
}

// P2
func TestAnswersHangOnNothingElse(t *testing.T) {
	s := mixed(50, 1)
	l := encoded(t, 9, 4, s)[3:]
	want := asked(9, 4, s, 50, 1, l)
	var told [16]*answers
	var wait sync.WaitGroup
	for i := range told {
		wait.Go(func() {
			asked(i, i-1, mixed(10*i, 2), 10*i, i, l)
			told[i] = asked(9, 4, s, 50, 1, l)
		})
	}
	wait.Wait()
	for i, got := range told {
		if !got.same(want) {
			t.Errorf("worker %d was told otherwise", i)
		}
	}
}

// P3: no place is told in this chapter.
func TestErrorsAreBare(t *testing.T) {
	l := shards("ab", "cd", "en")
	_, bound1 := coder.Encode(0, 0, "")
	_, bound2 := coder.Encode(1, 1, mixed(1001, 1))
	_, bound3 := coder.Decode(13, 2, 4, l)
	_, bound4 := coder.Rebuild(3, 2, 4, 3, l)
	_, bound5 := coder.Agree(3, 2, -1, l)
	_, shape1 := coder.Decode(2, 2, 4, l)
	_, shape2 := coder.Rebuild(3, 2, 5, 0, l)
	_, shape3 := coder.Agree(3, 2, 5, l)
	_, few1 := coder.Decode(3, 2, 4, nil)
	_, few2 := coder.Rebuild(3, 2, 4, 0, l[:1])
	_, few3 := coder.Agree(3, 2, 4, l[:1])
	for want, list := range map[error][]error{
		api.ErrBound: {bound1, bound2, bound3, bound4, bound5},
		api.ErrShape: {shape1, shape2, shape3},
		api.ErrFew:   {few1, few2, few3},
	} {
		for i, err := range list {
			var fault *api.Fault
			if err != want || errors.As(err, &fault) {
				t.Errorf("error %d is %v, want %v bare", i, err, want)
			}
		}
	}
}

// P3
func TestWhatLiesBehindALengthIsNotThere(t *testing.T) {
	s := mixed(11, 1)
	l := encoded(t, 5, 3, s)
	rest := append(slices.Clone(l), api.Shard{At: -1, Text: "none"})
	for length := range len(l) + 1 {
		long := slices.Clone(rest)
		if got, want := asked(5, 3, s, 11, 4, long[:length]), asked(5, 3, s, 11, 4, slices.Clip(slices.Clone(l[:length]))); !got.same(want) {
			t.Errorf("%d shards, and more behind them: told %v, want %v", length, got, want)
		}
		if !slices.Equal(long, rest) {
			t.Errorf("%d shards, and more behind them: written into", length)
		}
	}
}

// P3, P4
func TestListsAreOnlyReadAndNotKept(t *testing.T) {
	s := mixed(11, 1)
	l := encoded(t, 5, 3, s)
	for name, list := range map[string][]api.Shard{
		"all":           l,
		"turned around": chosen(l, 31, true),
		"some twice":    slices.Concat(l[3:], l[3:], l),
		"wrong byte":    changed(l, 2, 1, 9),
		"wrong length":  changedText(l, 4, "x"),
		"too few":       l[:2],
	} {
		list = slices.Clone(list)
		before := slices.Clone(list)
		first := asked(5, 3, s, 11, 4, list)
		if !slices.Equal(list, before) {
			t.Errorf("%s: written into", name)
		}
		for i := range list {
			list[i] = api.Shard{At: 4 - i, Text: "none"}
		}
		if !asked(5, 3, s, 11, 4, before).same(first) {
			t.Errorf("%s: a change of it shows in a call of another one", name)
		}
	}
}

// P4: what is written into an answer, also behind it, shows nowhere.
func TestAnswersAreNewMemory(t *testing.T) {
	for _, k := range []int{1, 3, 5} {
		got := encoded(t, 5, k, "abcdefg")
		want := slices.Clone(got)
		grown := append(got, api.Shard{At: 7, Text: "none"})
		for i := range got {
			got[i], grown[i] = api.Shard{}, api.Shard{At: -1}
		}
		if again := encoded(t, 5, k, "abcdefg"); !slices.Equal(again, want) {
			t.Errorf("a second call shows what was written: %#v", again)
		}
		if text, err := coder.Decode(5, k, 7, want); text != "abcdefg" || err != nil {
			t.Errorf("Decode shows what was written: %#v, %v", text, err)
		}
	}
}
