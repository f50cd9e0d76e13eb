package repair_test

import (
	"math"
	"slices"
	"strings"
	"sync"
	"testing"
	"unsafe"

	"shardkeep/api"
	"shardkeep/hold"
	"shardkeep/plain"
	"shardkeep/repair"
)

// answers are what all calls tell; Mend comes last, as it changes what the others tell.
type answers struct {
	missing       []int
	stand, mended int
	codes         [6]int
}

func asked(c api.Config, key string, l []*hold.Hold) answers {
	var out answers
	var errs [3]error
	out.missing, errs[0] = repair.Missing(c, key, l)
	out.stand, errs[1] = repair.Stand(c, key, l)
	out.mended, errs[2] = repair.Mend(c, key, l)
	for i, err := range errs {
		out.codes[2*i], out.codes[2*i+1] = plain.Code(err)
	}
	return out
}

func (a answers) same(b answers) bool {
	return slices.Equal(a.missing, b.missing) && a.stand == b.stand && a.mended == b.mended && a.codes == b.codes
}

// ordinary is a configuration of which one member lost its shard, and another one its hold.
func ordinary(t *testing.T) (api.Config, []*hold.Hold) {
	t.Helper()
	c := config(6, 3)
	l := holding(t, spread(t, c, api.Tag{N: 2, Who: 1}, "an ordinary object"), 0b011101)
	for i, v := range spread(t, c, api.Tag{N: 9, Who: 9}, "held by few")[:2] {
		put(t, l[i], v)
	}
	l[5] = nil
	return c, l
}

// usual is what is told of it.
func usual() answers {
	return answers{missing: []int{1, 5}, stand: 1, mended: 1, codes: [6]int{0, -1, 0, -1, 0, -1}}
}

// P1: that the test ends is what it asks.
func TestEveryCallEnds(t *testing.T) {
	long := strings.Repeat("\xff\x00", 1<<16)
	numbers := []int{math.MinInt, -1, 0, 1, 3, api.MaxShards, math.MaxInt}
	full, sealed := &hold.Hold{}, &hold.Hold{}
	fill(t, full, api.MaxHeld)
	sealed.Seal()
	odd := &hold.Hold{}
	put(t, odd, api.Version{Tag: api.Tag{N: 1}, Size: api.MaxText, S: api.Shard{At: api.MaxShards - 1, Text: long[:api.MaxText]}})
	put(t, odd, api.Version{Tag: api.Tag{N: 2}, Size: 0, S: api.Shard{At: 0, Text: long[:api.MaxText]}})
	lists := [][]*hold.Hold{nil, {}, {nil}, {odd}, {nil, odd, full}, {odd, odd, odd}, {sealed, full, odd}, make([]*hold.Hold, 12), slices.Repeat([]*hold.Hold{odd}, 12), make([]*hold.Hold, 1<<12)}
	for _, n := range numbers {
		for _, k := range numbers {
			for _, members := range [][]string{nil, {}, {""}, {"a"}, {long}, {"a", "a"}, {"a", "b", "c"}, named(12), make([]string, 1<<12)} {
				for _, l := range lists {
					asked(api.Config{N: n, K: k, Members: members}, key, l)
				}
				asked(api.Config{N: n, K: k, Members: members}, long, lists[6])
				asked(api.Config{N: n, K: k, Members: members}, "", lists[6])
			}
		}
	}
}

// P1, P3: a hold that Load answers beside an error is none.
func TestHoldsThatAreNone(t *testing.T) {
	c, l := ordinary(t)
	none, err := hold.Load("no hold")
	if err == nil {
		t.Fatal("loaded")
	}
	l[5] = none
	if got := asked(c, key, l); !got.same(usual()) {
		t.Errorf("told %v", got)
	}
}

// P2: many that ask at the same time, also for the same holds.
func TestAnswersHangOnNothingElse(t *testing.T) {
	c, shared := ordinary(t)
	var got [16]answers
	var wrong [16]bool
	var wait sync.WaitGroup
	for i := range got {
		_, own := ordinary(t)
		other := holding(t, spread(t, c, api.Tag{N: 1}, "another object"), 0b111)
		wait.Go(func() {
			asked(c, key, other)
			list, err := repair.Missing(c, key, shared)
			stand, err2 := repair.Stand(c, key, shared)
			wrong[i] = !slices.Equal(list, usual().missing) || stand != 1 || err != nil || err2 != nil
			got[i] = asked(c, key, own)
		})
	}
	wait.Wait()
	for i, x := range got {
		if wrong[i] || !x.same(usual()) {
			t.Errorf("worker %d was told otherwise: %v", i, x)
		}
	}
}

// P3, P5: errors by their numbers, bare but where a place is told; of several the one that is named first.
func TestErrorsByNumbers(t *testing.T) {
	sealed := func() []*hold.Hold {
		l := holding(t, spread(t, config(3, 2), api.Tag{N: 1}, "object"), 0b011)
		l[2].Seal()
		return l
	}
	for _, x := range []struct {
		name  string
		c     api.Config
		l     []*hold.Hold
		codes [6]int
	}{
		{"bound", api.Config{N: 3, K: 4, Members: []string{"A", "A"}}, nil, [6]int{2, -1, 2, -1, 2, -1}},
		{"members", api.Config{N: 3, K: 2, Members: []string{"A", "A"}}, nil, [6]int{3, -1, 3, -1, 3, -1}},
		{"name", api.Config{N: 3, K: 2, Members: []string{"a", "A", "a"}}, nil, [6]int{4, 1, 4, 1, 4, 1}},
		{"exist", api.Config{N: 3, K: 2, Members: []string{"a", "b", "a"}}, nil, [6]int{6, 2, 6, 2, 6, 2}},
		{"holds", config(3, 2), empty(2), [6]int{3, -1, 3, -1, 3, -1}},
		{"nothing", config(3, 2), empty(3), [6]int{0, -1, 5, -1, 0, -1}},
		{"sealed", config(3, 2), sealed(), [6]int{0, -1, 0, -1, 10, -1}},
	} {
		if got := asked(x.c, key, x.l); got.codes != x.codes {
			t.Errorf("%s: errors and places %v, want %v", x.name, got.codes, x.codes)
		}
	}
}

// P3: with an error of Missing's nothing has changed.
func TestErrorsChangeNothing(t *testing.T) {
	c, l := ordinary(t)
	_, want := ordinary(t)
	few, many, bound, name := c, c, c, c
	few.N, many.N, bound.K = 5, 7, 7
	name.Members = slices.Clone(c.Members)
	name.Members[3] = "No"
	for _, wrong := range []api.Config{few, many, bound, name} {
		if got := asked(wrong, key, l); got.codes[4] == 0 {
			t.Error("no error")
		}
	}
	asked(c, key, l[:5])
	asked(c, key, append(slices.Clone(l), nil))
	if !sameHolds(l, want) {
		t.Error("changed")
	}
	if got := asked(c, key, l); !got.same(usual()) {
		t.Errorf("told %v", got)
	}
}

// P3: what lies behind a length is neither read nor written.
func TestWhatLiesBehindIsNotThere(t *testing.T) {
	c, l := ordinary(t)
	behind := empty(1)[0]
	longL := append(slices.Clone(l), behind, nil)
	longMembers := append(slices.Clone(c.Members), "more", "more")
	c.Members = longMembers[:c.N]
	if got := asked(c, key, longL[:c.N]); !got.same(usual()) {
		t.Errorf("told %v", got)
	}
	if longL[c.N] != behind || longL[c.N+1] != nil || behind.Count() != 0 || longMembers[c.N] != "more" {
		t.Error("written behind a length")
	}
}

// P4: the list of holds stays, and the configuration; only holds are mended.
func TestWhatIsHandedOverIsOnlyRead(t *testing.T) {
	c, l := ordinary(t)
	list, members := slices.Clone(l), slices.Clone(c.Members)
	asked(c, key, l)
	if !slices.Equal(list, l) || !slices.Equal(members, c.Members) {
		t.Error("written into")
	}
	clear(c.Members)
	clear(l)
	c, _ = ordinary(t)
	missing(t, "behind it", c, list, 5)
}

// P4
func TestAnswersAreNewMemory(t *testing.T) {
	c, l := ordinary(t)
	first, _ := repair.Missing(c, key, l)
	second, _ := repair.Missing(c, key, l)
	clear(first)
	_ = append(first[:1], 7, 7, 7)
	if !slices.Equal(second, usual().missing) {
		t.Error("two answers share memory")
	}
	missing(t, "behind it", c, l, 1, 5)
}

// P4: texts whose bytes are changed later, as no text's are by the language's own means.
func TestTextsAreNotKept(t *testing.T) {
	c, l := ordinary(t)
	all := spread(t, c, api.Tag{N: 2, Who: 1}, "an ordinary object")
	bytes := []byte(key)
	if got := asked(c, unsafe.String(&bytes[0], len(bytes)), l); !got.same(usual()) {
		t.Errorf("told %v", got)
	}
	clear(bytes)
	if keys := l[1].Keys(); !slices.Equal(keys, []string{key}) {
		t.Errorf("its keys are %q", keys)
	}
	for i := range 5 {
		if !holds(l[i], all[i]) {
			t.Errorf("member %d does not have %v", i, all[i])
		}
	}
}

// P4: no two holds share what they have behind it.
func TestMendedHoldsAreTheirOwn(t *testing.T) {
	c := config(4, 1)
	all := spread(t, c, api.Tag{N: 1}, "object")
	l := holding(t, all, 0b0001)
	mended(t, "three", c, l, 3)
	l[0].Wipe()
	l[1].Seal()
	put(t, l[2], spread(t, c, api.Tag{N: 2}, "newer")[2])
	has(t, "the last", l[3], all[3])
	has(t, "the sealed one", l[1], all[1])
	if l[3].Sealed() || l[2].Sealed() {
		t.Error("sealed")
	}
}
