package repair_test

import (
	"testing"

	"shardkeep/api"
	"shardkeep/hold"
	"shardkeep/quorum"
	"shardkeep/repair"
)

// stands asks for how many may be lost.
func stands(t *testing.T, name string, c api.Config, l []*hold.Hold, want int) {
	t.Helper()
	if got, err := repair.Stand(c, key, l); got != want || err != nil {
		t.Errorf("%s: Stand = %d, %v, want %d", name, got, err, want)
	}
}

// falls asks for Stand's error where nothing is found.
func falls(t *testing.T, name string, c api.Config, l []*hold.Hold) {
	t.Helper()
	got, err := repair.Stand(c, key, l)
	told(t, name, err, api.ErrNone, -1)
	if got != 0 {
		t.Errorf("%s: Stand = %d beside an error", name, got)
	}
}

// P131: as many as have their shard, of every N and K; below K nothing is found.
func TestStandOfAsManyAsHaveTheirShard(t *testing.T) {
	everySize(func(c api.Config) {
		all := spread(t, c, api.Tag{N: 2, Who: 4}, "object")
		for have := range c.N + 1 {
			set := 1<<have - 1
			for _, l := range [][]*hold.Hold{holding(t, all, set), holding(t, all, set<<(c.N-have))} {
				if have < c.K {
					falls(t, "too few", c, l)
				} else {
					stands(t, "enough", c, l, have-c.K)
				}
			}
		}
		falls(t, "no holds", c, make([]*hold.Hold, c.N))
	})
}

// P131: an object of no bytes is found, too.
func TestStandOfAnObjectOfNoBytes(t *testing.T) {
	c := config(3, 2)
	all := spread(t, c, api.Tag{}, "")
	stands(t, "all", c, holding(t, all, 0b111), 1)
	stands(t, "two", c, holding(t, all, 0b101), 0)
	falls(t, "one", c, holding(t, all, 0b100))
}

// P131: those without a hold, and those that have it otherwise, do not count.
func TestStandCountsNoneThatIsMissing(t *testing.T) {
	c := config(5, 2)
	all := spread(t, c, api.Tag{N: 1}, "object")
	l := holding(t, all, 0b11111)
	stands(t, "all", c, l, 3)
	l[0] = nil
	stands(t, "without one", c, l, 2)
	l[4].Wipe()
	put(t, l[4], all[3])
	stands(t, "another one's shard", c, l, 1)
	l[3].Wipe()
	put(t, l[3], spread(t, c, api.Tag{N: 1}, "others")[3])
	stands(t, "the shard of another object", c, l, 0)
	put(t, l[3], spread(t, c, api.Tag{N: 2}, "newer")[3])
	stands(t, "a newer one that too few have", c, l, 0)
}

// P131: what is found where fewer than K have their own shard stands at 0, not below.
func TestStandIsNotBelowZero(t *testing.T) {
	c := config(4, 3)
	all := spread(t, c, api.Tag{N: 1}, "object")
	l := empty(c.N)
	for i := range c.N {
		put(t, l[i], all[(i+1)%c.N])
	}
	stands(t, "nobody has its own", c, l, 0)
	l[0].Wipe()
	put(t, l[0], all[0])
	stands(t, "one has its own", c, l, 0)
}

// P131: it is of the best version, also where an older one stands better.
func TestStandIsOfTheBest(t *testing.T) {
	c := config(4, 2)
	old, best := spread(t, c, api.Tag{N: 1}, "old"), spread(t, c, api.Tag{N: 2}, "best")
	l := holding(t, old, 0b1111)
	put(t, l[0], best[0])
	stands(t, "one has the newer one", c, l, 2)
	put(t, l[2], best[2])
	stands(t, "two have it", c, l, 0)
	put(t, l[1], best[1])
	stands(t, "three have it", c, l, 1)
}

// P131: so many may be lost, whichever: what is left tells the object still; and one more is too many for some.
func TestSoManyMayBeLost(t *testing.T) {
	tag := api.Tag{N: 7, Who: 3}
	everySize(func(c api.Config) {
		if c.N > 6 {
			return
		}
		all := spread(t, c, tag, "an object")
		for set := range 1 << c.N {
			l := holding(t, all, set)
			stand, err := repair.Stand(c, key, l)
			if err != nil {
				continue
			}
			tooMany := false
			for lost := range 1 << c.N {
				count := len(members(c.N, lost))
				if count > stand+1 {
					continue
				}
				found := isFound(t, c, l, lost, tag, "an object")
				if count <= stand && !found {
					t.Errorf("N %d, K %d: %b stands at %d, and without %b it falls", c.N, c.K, set, stand, lost)
				}
				tooMany = tooMany || !found
			}
			if !tooMany {
				t.Errorf("N %d, K %d: %b stands at %d, and one more may be lost", c.N, c.K, set, stand)
			}
		}
	})
}

// isFound tells whether those that are not lost tell the object.
func isFound(t *testing.T, c api.Config, l []*hold.Hold, lost int, tag api.Tag, text string) bool {
	t.Helper()
	var left [][]api.Version
	for _, i := range others(c.N, lost) {
		left = append(left, l[i].Get(key))
	}
	gotTag, got, found, err := quorum.Best(c, left)
	if err != nil || found && (gotTag != tag || got != text) {
		t.Fatalf("Best = %v, %q, %v", gotTag, got, err)
	}
	return found
}

// P131: nothing is put, and nothing goes.
func TestStandAndMissingChangeNothing(t *testing.T) {
	c := config(4, 2)
	all := spread(t, c, api.Tag{N: 1}, "object")
	l := holding(t, all, 0b0101)
	for range 3 {
		stands(t, "K", c, l, 0)
		missing(t, "two", c, l, 1, 3)
	}
	for i, h := range l {
		if h.Sealed() || h.Count() != 1-i%2 {
			t.Errorf("hold %d has %d", i, h.Count())
		}
	}
}
