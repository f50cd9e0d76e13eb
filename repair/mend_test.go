package repair_test

import (
	"slices"
	"strconv"
	"testing"

	"shardkeep/api"
	"shardkeep/hold"
	"shardkeep/repair"
)

// mended asks for how many got their shard.
func mended(t *testing.T, name string, c api.Config, l []*hold.Hold, want int) {
	t.Helper()
	if got, err := repair.Mend(c, key, l); got != want || err != nil {
		t.Errorf("%s: Mend = %d, %v, want %d", name, got, err, want)
	}
}

// refused asks for an error of Mend, and for no number beside it.
func refused(t *testing.T, name string, c api.Config, l []*hold.Hold, want error) {
	t.Helper()
	got, err := repair.Mend(c, key, l)
	told(t, name, err, want, -1)
	if got != 0 {
		t.Errorf("%s: Mend = %d beside an error", name, got)
	}
}

// has asks a hold for just these versions of the key.
func has(t *testing.T, name string, h *hold.Hold, want ...api.Version) {
	t.Helper()
	if got := h.Get(key); !slices.Equal(got, want) {
		t.Errorf("%s: has %v, want %v", name, got, want)
	}
}

// fill has a hold take versions of another key until count are there.
func fill(t *testing.T, h *hold.Hold, count int) {
	t.Helper()
	for n := 0; h.Count() < count; n++ {
		if err := h.Put("other", api.Version{Tag: api.Tag{N: n}}); err != nil {
			t.Fatal(err)
		}
	}
}

// P131: every choice of members that have their shard, of every N and K up to 7: all have it behind it, if K have.
func TestMendOfEveryChoice(t *testing.T) {
	everySize(func(c api.Config) {
		if c.N > 7 {
			return
		}
		all := spread(t, c, api.Tag{N: 3, Who: 1}, "some object")
		for set := range 1 << c.N {
			l := holding(t, all, set)
			lost := others(c.N, set)
			if c.N-len(lost) < c.K {
				mended(t, "too few", c, l, 0)
				for _, i := range lost {
					has(t, "too few", l[i])
				}
				continue
			}
			mended(t, "enough", c, l, len(lost))
			for i, h := range l {
				has(t, "enough", h, all[i])
			}
			missing(t, "behind it", c, l)
			mended(t, "once more", c, l, 0)
		}
	})
}

// P131: a member without a hold is passed over: it does not count, and stays so.
func TestMendPassesOverThoseWithoutAHold(t *testing.T) {
	c := config(5, 2)
	all := spread(t, c, api.Tag{N: 1}, "object")
	l := holding(t, all, 0b01010)
	l[0], l[4] = nil, nil
	mended(t, "one of three", c, l, 1)
	if l[0] != nil || l[4] != nil {
		t.Error("there is a hold where none was")
	}
	has(t, "the one between", l[2], all[2])
	missing(t, "behind it", c, l, 0, 4)
	mended(t, "only those without a hold are left", c, l, 0)
	l[4] = &hold.Hold{}
	mended(t, "one has come", c, l, 1)
	has(t, "the one that has come", l[4], all[4])
	missing(t, "at the end", c, l, 0)
}

// P131: what a member has beside it stays, older or newer, and of other keys.
func TestMendLeavesOtherVersions(t *testing.T) {
	c := config(4, 2)
	old, best, newer := spread(t, c, api.Tag{N: 1}, "old"), spread(t, c, api.Tag{N: 2}, "best"), spread(t, c, api.Tag{N: 3}, "newer")
	l := holding(t, old, 0b0111)
	put(t, l[2], newer[2])
	put(t, l[3], best[3])
	put(t, l[0], best[0])
	fill(t, l[1], 4)
	mended(t, "two", c, l, 2)
	has(t, "has it already", l[0], old[0], best[0])
	has(t, "an older one", l[1], old[1], best[1])
	has(t, "an older and a newer one", l[2], old[2], best[2], newer[2])
	has(t, "only this one", l[3], best[3])
	if got := l[1].Get("other"); len(got) != 3 || l[1].Count() != 5 {
		t.Errorf("another key has %v, %d in all", got, l[1].Count())
	}
}

// P131: of an object of which too few newer shards are there, the newest that is whole comes back.
func TestMendOfTheBestAlone(t *testing.T) {
	c := config(3, 2)
	first, second := spread(t, c, api.Tag{N: 1}, "first"), spread(t, c, api.Tag{N: 2}, "second")
	l := holding(t, first, 0b110)
	put(t, l[0], second[0])
	mended(t, "the first", c, l, 1)
	has(t, "the first", l[0], first[0], second[0])
	put(t, l[2], second[2])
	l[0].Wipe()
	mended(t, "still the first", c, l, 1)
	put(t, l[0], second[0])
	mended(t, "the second, not what is below it", c, l, 1)
	has(t, "the second", l[1], first[1], second[1])
	l[0].Wipe()
	mended(t, "the second, again", c, l, 1)
	has(t, "the second alone", l[0], second[0])
}

// P131: each of hold.Put's errors that a hold can have; bare.
func TestMendOfHoldsThatRefuse(t *testing.T) {
	c := config(3, 2)
	all := spread(t, c, api.Tag{N: 1}, "object")
	for at := range c.N {
		l := holding(t, all, 0b111&^(1<<at))
		l[at].Seal()
		refused(t, "sealed", c, l, api.ErrOld)
		has(t, "sealed", l[at])

		l = holding(t, all, 0b111&^(1<<at))
		fill(t, l[at], api.MaxHeld)
		refused(t, "full", c, l, api.ErrFull)
		has(t, "full", l[at])
		if _, err := l[at].Trim("other", api.MaxHeld-1); err != nil {
			t.Fatal(err)
		}
		mended(t, "room for one", c, l, 1)
		has(t, "room for one", l[at], all[at])
	}
	// Of three of one tag the first two tell the object, so that only the last can be another one.
	l := holding(t, all, 0b011)
	other := all[2]
	other.S.Text = "xyz"
	put(t, l[2], other)
	refused(t, "another one", c, l, api.ErrExist)
	has(t, "another one", l[2], other)
	fill(t, l[2], api.MaxHeld)
	refused(t, "another one, and full", c, l, api.ErrExist)
	l[2].Seal()
	refused(t, "another one, full and sealed", c, l, api.ErrOld)
}

// P131: sealed or full holds that have their shard are not asked.
func TestMendDoesNotAskThoseThatHaveIt(t *testing.T) {
	c := config(3, 2)
	all := spread(t, c, api.Tag{N: 1}, "object")
	l := holding(t, all, 0b011)
	l[0].Seal()
	fill(t, l[1], api.MaxHeld)
	mended(t, "the last one", c, l, 1)
	has(t, "the last one", l[2], all[2])
	l[2].Seal()
	mended(t, "nobody", c, l, 0)
}

// P131: the first that refuses is told; those ahead of it are mended, it and those behind it are not.
func TestMendEndsAtTheFirstThatRefuses(t *testing.T) {
	c := config(8, 2)
	all := spread(t, c, api.Tag{N: 1}, "object")
	for at := 2; at < c.N; at++ {
		for second := at; second < c.N; second++ {
			l := holding(t, all, 0b11)
			if second > at {
				fill(t, l[second], api.MaxHeld)
			}
			l[at].Seal()
			name := strconv.Itoa(at) + ", then " + strconv.Itoa(second)
			refused(t, name, c, l, api.ErrOld)
			for i, h := range l {
				if i < at {
					has(t, name, h, all[i])
				} else {
					has(t, name, h)
				}
			}
			l[at].Wipe()
			if second > at {
				refused(t, name+": the second", c, l, api.ErrFull)
				l[second].Wipe()
				mended(t, name+": the others", c, l, c.N-second)
			} else {
				mended(t, name+": the others", c, l, c.N-at)
			}
			missing(t, name+": at the end", c, l)
		}
	}
}

// P131: where one without a hold stands ahead of one that refuses.
func TestMendPassesOverAheadOfAnError(t *testing.T) {
	c := config(4, 1)
	all := spread(t, c, api.Tag{N: 1}, "object")
	l := holding(t, all, 0b0001)
	l[1] = nil
	l[2].Seal()
	refused(t, "sealed", c, l, api.ErrOld)
	l[2] = nil
	mended(t, "without both", c, l, 1)
	has(t, "the last", l[3], all[3])
}

// P131: one hold for two members takes one shard, and is another one for the next.
func TestMendOfOneHoldForTwo(t *testing.T) {
	c := config(4, 2)
	all := spread(t, c, api.Tag{N: 1}, "object")
	l := holding(t, all, 0b0011)
	l[3] = l[2]
	refused(t, "one hold for two", c, l, api.ErrExist)
	has(t, "one hold for two", l[2], all[2])
}

// P131: shards that are not their members' bring all back, but for those that have others of this tag.
func TestMendFromShardsInOtherHolds(t *testing.T) {
	c := config(4, 2)
	all := spread(t, c, api.Tag{N: 1}, "object")
	l := empty(c.N)
	put(t, l[2], all[3])
	put(t, l[3], all[1])
	refused(t, "in others", c, l, api.ErrExist)
	for i, want := range []api.Version{all[0], all[1], all[3], all[1]} {
		has(t, "in others", l[i], want)
	}
	missing(t, "in others", c, l, 2, 3)
	l[2].Wipe()
	l[3].Wipe()
	mended(t, "behind it", c, l, 2)
}
