package repair_test

import (
	"errors"
	"slices"
	"strconv"
	"strings"
	"testing"

	"shardkeep/api"
	"shardkeep/coder"
	"shardkeep/hold"
	"shardkeep/repair"
)

const key = "key"

// named has members whose order is not the one of their names.
func named(count int) []string {
	l := make([]string, count)
	for i := range l {
		l[i] = "node-" + strconv.Itoa(99-i)
	}
	return l
}

func config(n, k int) api.Config { return api.Config{N: n, K: k, Members: named(n)} }

// everySize calls f with all configurations whose N and K are in bounds.
func everySize(f func(c api.Config)) {
	for n := 1; n <= api.MaxShards; n++ {
		for k := 1; k <= n; k++ {
			f(config(n, k))
		}
	}
}

// spread has a version of each member: its shard of the text.
func spread(t *testing.T, c api.Config, tag api.Tag, text string) []api.Version {
	t.Helper()
	shards, err := coder.Encode(c.N, c.K, text)
	if err != nil {
		t.Fatal(err)
	}
	l := make([]api.Version, c.N)
	for i, x := range shards {
		l[i] = api.Version{Tag: tag, Size: len(text), S: x}
	}
	return l
}

func empty(count int) []*hold.Hold {
	l := make([]*hold.Hold, count)
	for i := range l {
		l[i] = &hold.Hold{}
	}
	return l
}

// put has a version held.
func put(t *testing.T, h *hold.Hold, v api.Version) {
	t.Helper()
	if err := h.Put(key, v); err != nil {
		t.Fatalf("%v: %v", v, err)
	}
}

// holding has a hold for each member; those of the set have their version, the others nothing.
func holding(t *testing.T, all []api.Version, set int) []*hold.Hold {
	t.Helper()
	l := empty(len(all))
	for _, i := range members(len(all), set) {
		put(t, l[i], all[i])
	}
	return l
}

// members of a set, which has a bit for each.
func members(count, set int) []int {
	var l []int
	for i := range count {
		if set>>i&1 == 1 {
			l = append(l, i)
		}
	}
	return l
}

// others are those that are not in the set.
func others(count, set int) []int { return members(count, ^set) }

// missing asks for the numbers of members.
func missing(t *testing.T, name string, c api.Config, l []*hold.Hold, want ...int) {
	t.Helper()
	if got, err := repair.Missing(c, key, l); !slices.Equal(got, want) || err != nil {
		t.Errorf("%s: Missing = %v, %v, want %v", name, got, err, want)
	}
}

// told asks for an error, and its place: with -1 it is bare.
func told(t *testing.T, name string, err, want error, at int) {
	t.Helper()
	var fault *api.Fault
	if at < 0 {
		if err != want || errors.As(err, &fault) {
			t.Errorf("%s: told %#v, want %v bare", name, err, want)
		}
		return
	}
	if !errors.As(err, &fault) || fault.Err != want || fault.At != at {
		t.Errorf("%s: told %#v, want %v at %d", name, err, want, at)
	}
}

// P130: every choice of members that have their shard, of every N and K up to 8.
func TestMissingAreThoseWithoutTheirShard(t *testing.T) {
	everySize(func(c api.Config) {
		if c.N > 8 {
			return
		}
		all := spread(t, c, api.Tag{N: 3, Who: 1}, "some object")
		for set := range 1 << c.N {
			have := members(c.N, set)
			var want []int
			if len(have) >= c.K {
				want = others(c.N, set)
			}
			l := holding(t, all, set)
			missing(t, "empty holds", c, l, want...)
			for _, i := range others(c.N, set) {
				l[i] = nil
			}
			missing(t, "no holds", c, l, want...)
		}
	})
}

// P130: just K, and one fewer, of every N and K, also of objects of no and of most bytes.
func TestMissingAtK(t *testing.T) {
	everySize(func(c api.Config) {
		for _, size := range []int{0, 1, c.K, c.K + 1, api.MaxText} {
			all := spread(t, c, api.Tag{N: 1 << 40, Who: 1 << 40}, strings.Repeat("\x00\xffx", api.MaxText)[:size])
			first, last := 1<<c.K-1, (1<<c.K-1)<<(c.N-c.K)
			missing(t, "the first K", c, holding(t, all, first), others(c.N, first)...)
			missing(t, "the last K", c, holding(t, all, last), others(c.N, last)...)
			missing(t, "one fewer", c, holding(t, all, first>>1))
			missing(t, "all", c, holding(t, all, 1<<c.N-1))
		}
	})
}

// P130: nothing is found, so nobody misses anything.
func TestNothingFound(t *testing.T) {
	everySize(func(c api.Config) {
		missing(t, "no holds", c, make([]*hold.Hold, c.N))
		missing(t, "empty holds", c, empty(c.N))
		other := empty(c.N)
		for i, v := range spread(t, c, api.Tag{N: 1}, "object") {
			if err := other[i].Put("other", v); err != nil {
				t.Fatal(err)
			}
		}
		missing(t, "another key", c, other)
	})
}

// P130: what no hold can have as a key is not found, and is no error.
func TestKeysThatAreNoNames(t *testing.T) {
	c := config(3, 2)
	l := holding(t, spread(t, c, api.Tag{N: 1}, "object"), 3)
	for _, key := range []string{"", "Key", "a b", "\xff", strings.Repeat("k", api.MaxName+1), strings.Repeat("k", 1<<16)} {
		if got, err := repair.Missing(c, key, l); len(got) > 0 || err != nil {
			t.Errorf("%q: Missing = %v, %v", key, got, err)
		}
		if got, err := repair.Mend(c, key, l); got != 0 || err != nil {
			t.Errorf("%q: Mend = %d, %v", key, got, err)
		}
		got, err := repair.Stand(c, key, l)
		told(t, "Stand", err, api.ErrNone, -1)
		if got != 0 {
			t.Errorf("%q: Stand = %d beside an error", key, got)
		}
	}
}

// P130: their own shard, of that tag, of that size, to the byte.
func TestMissingIsWhoHasItOtherwise(t *testing.T) {
	c := config(4, 2)
	all := spread(t, c, api.Tag{N: 5, Who: 2}, "an object")
	for _, x := range []struct {
		name   string
		change func(v *api.Version)
	}{
		{"a lesser number", func(v *api.Version) { v.Tag.N-- }},
		{"another client", func(v *api.Version) { v.Tag.Who-- }},
		{"one byte fewer", func(v *api.Version) { v.Size-- }},
		{"another byte", func(v *api.Version) { v.S.Text = "x" + v.S.Text[1:] }},
		{"a byte too many", func(v *api.Version) { v.S.Text += "\x00" }},
		{"no bytes", func(v *api.Version) { v.S.Text = "" }},
		{"another member's", func(v *api.Version) { v.S = all[0].S }},
		{"another number", func(v *api.Version) { v.S.At = 0 }},
		{"a number that no member has", func(v *api.Version) { v.S.At = 4 }},
	} {
		for _, at := range []int{2, 3} {
			l := holding(t, all, 0b1111&^(1<<at))
			wrong := all[at]
			x.change(&wrong)
			put(t, l[at], wrong)
			missing(t, x.name, c, l, at)
		}
	}
}

// P130: what else a member has does not matter, be it older or newer.
func TestMissingBesideOtherVersions(t *testing.T) {
	c := config(4, 2)
	old, best, newer := spread(t, c, api.Tag{N: 1}, "old"), spread(t, c, api.Tag{N: 2}, "best"), spread(t, c, api.Tag{N: 3}, "newer")
	l := holding(t, old, 0b1111)
	missing(t, "the old one alone", c, l)
	put(t, l[3], best[3])
	missing(t, "too few have the next one", c, l)
	put(t, l[0], best[0])
	missing(t, "K have it", c, l, 1, 2)
	put(t, l[1], newer[1])
	missing(t, "one has a newer one", c, l, 1, 2)
	put(t, l[1], best[1])
	missing(t, "the one with the newer one has it too", c, l, 2)
	put(t, l[2], newer[2])
	missing(t, "K have the newer one", c, l, 0, 3)
}

// P130: shards that are told by others than their members are enough too, but those miss their own.
func TestShardsInOtherHolds(t *testing.T) {
	c := config(4, 2)
	all := spread(t, c, api.Tag{N: 1}, "object")
	l := empty(c.N)
	put(t, l[0], all[3])
	put(t, l[3], all[1])
	missing(t, "in others", c, l, 0, 1, 2, 3)
	l = empty(c.N)
	put(t, l[2], all[2])
	put(t, l[3], all[2])
	missing(t, "the same shard twice", c, l)
	same := empty(1)[0]
	put(t, same, all[1])
	missing(t, "the same hold twice", c, []*hold.Hold{same, same, nil, nil})
	missing(t, "the same hold twice, and another", c, []*hold.Hold{same, same, l[2], nil}, 0, 3)
}

// P130: the version is the one of the shards that are told first, also where others do not agree.
func TestMissingOfShardsThatDoNotAgree(t *testing.T) {
	c := config(4, 2)
	tag := api.Tag{N: 1}
	a, b := spread(t, c, tag, "abcd"), spread(t, c, tag, "wxyz")
	for _, x := range []struct {
		have string
		want []int
	}{
		{"aaaa", nil}, {"aabb", []int{2, 3}}, {"bbaa", []int{2, 3}}, {"-bba", []int{0, 3}}, {"a-ba", []int{1, 3}},
		{"baab", []int{2, 3}}, {"abbb", []int{2, 3}}, // "wxcd", "abyz": only these two have it
	} {
		l := empty(c.N)
		for i, which := range x.have {
			switch which {
			case 'a':
				put(t, l[i], a[i])
			case 'b':
				put(t, l[i], b[i])
			}
		}
		missing(t, x.have, c, l, x.want...)
	}
}

// P130: bytes that fill up an object's last shard are 0: a shard that has others is not just so.
func TestMissingOfWhatFillsUp(t *testing.T) {
	c := config(3, 2)
	all := spread(t, c, api.Tag{N: 1}, "abc")
	odd := all[1]
	odd.S.Text = "cX"
	l := empty(c.N)
	put(t, l[0], all[0])
	put(t, l[1], odd)
	missing(t, "filled up otherwise", c, l, 1, 2)
}

// toldByAll asks each call for an error, and for nothing beside it.
func toldByAll(t *testing.T, name string, c api.Config, l []*hold.Hold, want error, at int) {
	t.Helper()
	list, err := repair.Missing(c, key, l)
	told(t, name+": Missing", err, want, at)
	mended, err := repair.Mend(c, key, l)
	told(t, name+": Mend", err, want, at)
	stand, err := repair.Stand(c, key, l)
	told(t, name+": Stand", err, want, at)
	if len(list) > 0 || mended != 0 || stand != 0 {
		t.Errorf("%s: %v, %d, %d beside an error", name, list, mended, stand)
	}
}

// P130, P131: quorum.Check's errors, whatever the holds are, and ahead of what is wrong of them.
func TestConfigurationsThatAreNone(t *testing.T) {
	good := config(3, 2)
	whole := holding(t, spread(t, good, api.Tag{N: 1}, "object"), 0b011)
	for _, l := range [][]*hold.Hold{nil, whole, whole[:2], make([]*hold.Hold, 20)} {
		for _, x := range []struct{ n, k int }{{0, 0}, {3, 0}, {3, -1}, {2, 3}, {-1, -1}, {api.MaxShards + 1, 2}} {
			c := config(3, 2)
			c.N, c.K = x.n, x.k
			toldByAll(t, "N and K", c, l, api.ErrBound, -1)
		}
		for _, count := range []int{0, 2, 4} {
			toldByAll(t, "members", api.Config{N: 3, K: 2, Members: named(count)}, l, api.ErrShape, -1)
		}
		toldByAll(t, "no name", api.Config{N: 3, K: 2, Members: []string{"a", "B", "a"}}, l, api.ErrName, 1)
		toldByAll(t, "twice", api.Config{N: 3, K: 2, Members: []string{"a", "b", "b"}}, l, api.ErrExist, 2)
	}
	missing(t, "behind all", good, whole, 2)
}

// P130, P131: as many holds as members, no fewer and no more, also where the others are nil.
func TestHoldsThatAreNotAsManyAsMembers(t *testing.T) {
	everySize(func(c api.Config) {
		l := holding(t, spread(t, c, api.Tag{N: 1}, "object"), 1<<c.K-1)
		toldByAll(t, "none", c, nil, api.ErrShape, -1)
		toldByAll(t, "one fewer", c, l[:c.N-1], api.ErrShape, -1)
		toldByAll(t, "one more", c, append(slices.Clone(l), nil), api.ErrShape, -1)
		toldByAll(t, "all twice", c, slices.Concat(l, l), api.ErrShape, -1)
		missing(t, "just so many", c, l, others(c.N, 1<<c.K-1)...)
	})
}
