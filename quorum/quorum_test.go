package quorum_test

import (
	"errors"
	"math"
	"math/bits"
	"slices"
	"strconv"
	"strings"
	"testing"

	"shardkeep/api"
	"shardkeep/quorum"
)

// named has members whose order is not the one of their names.
func named(count int) []string {
	l := make([]string, count)
	for i := range l {
		l[i] = "node-" + strconv.Itoa(99-i)
	}
	return l
}

func config(n, k int) api.Config { return api.Config{N: n, K: k, Members: named(n)} }

// everySize calls f with all configurations whose N and K are in bounds.
func everySize(f func(c api.Config)) {
	for n := 1; n <= api.MaxShards; n++ {
		for k := 1; k <= n; k++ {
			f(config(n, k))
		}
	}
}

// told asks for an error, and its place: with -1 it is bare.
func told(t *testing.T, name string, err, want error, at int) {
	t.Helper()
	var fault *api.Fault
	if at < 0 {
		if err != want || errors.As(err, &fault) {
			t.Errorf("%s: told %#v, want %v bare", name, err, want)
		}
		return
	}
	if !errors.As(err, &fault) || fault.Err != want || fault.At != at {
		t.Errorf("%s: told %#v, want %v at %d", name, err, want, at)
	}
}

// toldByAll asks each call for Check's error, also where what else it is given is wrong, and for nothing beside it.
func toldByAll(t *testing.T, name string, c api.Config, want error, at int) {
	t.Helper()
	told(t, name+": Check", quorum.Check(c), want, at)
	enough, err := quorum.Enough(c)
	told(t, name+": Enough", err, want, at)
	if enough != 0 {
		t.Errorf("%s: Enough = %d beside an error", name, enough)
	}
	for _, l := range [][]string{nil, c.Members, {"none"}} {
		both, err := quorum.Meet(c, l, l)
		told(t, name+": Meet", err, want, at)
		if len(both) != 0 {
			t.Errorf("%s: Meet = %q beside an error", name, both)
		}
	}
	for _, l := range [][][]api.Version{nil, {{{Size: 1, S: api.Shard{Text: "s"}}}}, make([][]api.Version, api.MaxShards+1)} {
		tag, text, found, err := quorum.Best(c, l)
		told(t, name+": Best", err, want, at)
		if tag != (api.Tag{}) || text != "" || found {
			t.Errorf("%s: Best = %v, %q, %v beside an error", name, tag, text, found)
		}
	}
}

// aroundBounds are numbers at, outside, and far outside those of N and K.
func aroundBounds() []int {
	l := []int{math.MinInt, math.MinInt + 1, math.MinInt32, -256, 255, 256, 257, math.MaxInt32, math.MaxInt - 1, math.MaxInt}
	for n := -2; n <= api.MaxShards+5; n++ {
		l = append(l, n)
	}
	return l
}

// P80: as many members as N says, where there can be so many; and as many as there may be.
func TestBoundsOfNAndK(t *testing.T) {
	for _, n := range aroundBounds() {
		for _, k := range aroundBounds() {
			c := api.Config{N: n, K: k, Members: named(min(max(n, 0), 20))}
			if k >= 1 && k <= n && n <= 12 {
				told(t, "in bounds", quorum.Check(c), nil, -1)
				continue
			}
			name := "N " + strconv.Itoa(n) + ", K " + strconv.Itoa(k)
			toldByAll(t, name, c, api.ErrBound, -1)
			toldByAll(t, name+", no member", api.Config{N: n, K: k}, api.ErrBound, -1)
			toldByAll(t, name+", no names", api.Config{N: n, K: k, Members: []string{"", ""}}, api.ErrBound, -1)
		}
	}
}

// P80: also where the members are no names, or one is there twice.
func TestNotNMembers(t *testing.T) {
	everySize(func(c api.Config) {
		for count := range api.MaxNodes + 3 {
			if count != c.N {
				c.Members = named(count)
				toldByAll(t, "of "+strconv.Itoa(c.N)+" members "+strconv.Itoa(count), c, api.ErrShape, -1)
				c.Members = make([]string, count)
				toldByAll(t, "no names", c, api.ErrShape, -1)
				c.Members = slices.Repeat([]string{"a"}, count)
				toldByAll(t, "all the same", c, api.ErrShape, -1)
			}
		}
		c.Members = nil
		toldByAll(t, "nil", c, api.ErrShape, -1)
	})
}

// P80
func TestMembersThatAreNoRing(t *testing.T) {
	long := strings.Repeat("n", api.MaxName)
	for _, c := range []struct {
		name    string
		members []string
		want    error
		at      int
	}{
		{"no byte", []string{""}, api.ErrName, 0},
		{"one byte too many", []string{"a", long + "n"}, api.ErrName, 1},
		{"a great letter", []string{"a", "b", "C"}, api.ErrName, 2},
		{"a byte that is none", []string{"a b", "c"}, api.ErrName, 0},
		{"twice", []string{"a", "a"}, api.ErrExist, 1},
		{"twice, later", []string{"a", "b", "c", "b"}, api.ErrExist, 3},
		{"twice, ahead of no name", []string{"a", "a", "A"}, api.ErrExist, 1},
		{"no name, ahead of twice", []string{"a", "A", "a"}, api.ErrName, 1},
		{"no name, the last of all", append(named(11), "_"), api.ErrName, 11},
		{"twice, the last of all", append(named(11), named(1)[0]), api.ErrExist, 11},
	} {
		for k := 1; k <= len(c.members); k++ {
			toldByAll(t, c.name, api.Config{N: len(c.members), K: k, Members: c.members}, c.want, c.at)
		}
	}
	told(t, "the longest names", quorum.Check(api.Config{N: 3, K: 2, Members: []string{long, long[1:], "-"}}), nil, -1)
}

// P80
func TestEnoughOfFew(t *testing.T) {
	for _, c := range []struct{ n, k, want int }{
		{1, 1, 1}, {2, 1, 2}, {2, 2, 2}, {3, 1, 2}, {3, 2, 3}, {3, 3, 3}, {4, 1, 3}, {4, 2, 3}, {4, 3, 4},
		{5, 1, 3}, {5, 2, 4}, {5, 3, 4}, {5, 4, 5}, {12, 1, 7}, {12, 2, 7}, {12, 3, 8}, {12, 11, 12},
	} {
		if got, err := quorum.Enough(config(c.n, c.k)); got != c.want || err != nil {
			t.Errorf("Enough of N %d, K %d = %d, %v, want %d", c.n, c.k, got, err, c.want)
		}
	}
}

// P80: of all N and K: the fewest that are no fewer than half of both.
func TestEnoughOfAll(t *testing.T) {
	everySize(func(c api.Config) {
		want := 0
		for want+want < c.N+c.K {
			want++
		}
		if got, err := quorum.Enough(c); got != want || err != nil {
			t.Errorf("Enough of N %d, K %d = %d, %v, want %d", c.N, c.K, got, err, want)
		}
		if c.K == c.N && want != c.N {
			t.Errorf("N %d: a quorum of %d is not all", c.N, want)
		}
	})
}

// P80
func TestMeetOfFew(t *testing.T) {
	c := api.Config{N: 4, K: 1, Members: []string{"d", "b", "a", "c"}}
	for _, x := range []struct{ a, b, want []string }{
		{nil, nil, nil},
		{[]string{}, []string{}, nil},
		{[]string{"a"}, nil, nil},
		{nil, []string{"a"}, nil},
		{[]string{"a"}, []string{"b"}, nil},
		{[]string{"a"}, []string{"a"}, []string{"a"}},
		{[]string{"a", "b"}, []string{"b", "c"}, []string{"b"}},
		{[]string{"a", "b", "c", "d"}, []string{"a", "b", "c", "d"}, []string{"d", "b", "a", "c"}},
		{[]string{"c", "a", "b", "d"}, []string{"d", "c", "b"}, []string{"d", "b", "c"}},
		{[]string{"d", "c"}, []string{"c", "d"}, []string{"d", "c"}},
		{[]string{"a", "a"}, []string{"b"}, nil},
		{[]string{"a", "a"}, []string{"a"}, []string{"a"}},
		{[]string{"c"}, []string{"a", "c", "c", "a"}, []string{"c"}},
		{[]string{"a", "d", "a", "d"}, []string{"d", "a", "a", "a"}, []string{"d", "a"}},
	} {
		if got, err := quorum.Meet(c, x.a, x.b); !slices.Equal(got, x.want) || err != nil {
			t.Errorf("Meet(%q, %q) = %q, %v, want %q", x.a, x.b, got, err, x.want)
		}
	}
}

// P80
func TestMeetOfStrangers(t *testing.T) {
	c := api.Config{N: 3, K: 2, Members: []string{"c", "b", "a"}}
	long := slices.Repeat([]string{"a", "b", "c"}, 100)
	for _, x := range []struct {
		a, b []string
		at   int
	}{
		{[]string{"x"}, nil, 0},
		{nil, []string{"x"}, 0},
		{[]string{"a", "x"}, nil, 1},
		{[]string{"a"}, []string{"a", "b", "x"}, 2},
		{[]string{"a", "a", "a", "x", "a"}, []string{"a"}, 3},
		{[]string{"a", "b", "x"}, []string{"x"}, 2},
		{[]string{"x"}, []string{"a", "b", "x"}, 0},
		{[]string{"a", "x", "y", "x"}, []string{"y"}, 1},
		{[]string{"a", "b", "c"}, []string{"c", "y", "x", "y"}, 1},
		{[]string{""}, []string{"a"}, 0},
		{[]string{"a"}, []string{"a", ""}, 1},
		{[]string{"a", "A"}, []string{"a"}, 1},
		{[]string{"a", "aa"}, []string{"a"}, 1},
		{[]string{"a"}, []string{"not a name"}, 0},
		{append(slices.Clone(long), "d"), long, 300},
		{long, append(slices.Clone(long), "d"), 300},
	} {
		got, err := quorum.Meet(c, x.a, x.b)
		told(t, "Meet", err, api.ErrNone, x.at)
		if len(got) != 0 {
			t.Errorf("Meet = %q beside an error", got)
		}
	}
}

// chosen are the members whose bits are set.
func chosen(c api.Config, set uint) []string {
	var l []string
	for i, member := range c.Members {
		if set>>i&1 == 1 {
			l = append(l, member)
		}
	}
	return l
}

// P80: of all lists of five members, turned around.
func TestMeetOfAll(t *testing.T) {
	c := config(5, 3)
	for a := range uint(1 << 5) {
		for b := range uint(1 << 5) {
			first, second := chosen(c, a), chosen(c, b)
			slices.Reverse(first)
			slices.Sort(second)
			if got, err := quorum.Meet(c, first, second); !slices.Equal(got, chosen(c, a&b)) || err != nil {
				t.Errorf("Meet(%q, %q) = %q, %v", first, second, got, err)
			}
		}
	}
}

// quorums are the sets of just as many members as are enough.
func quorums(t *testing.T, c api.Config) []uint {
	t.Helper()
	enough, err := quorum.Enough(c)
	if err != nil || enough < 1 || enough > c.N {
		t.Fatalf("Enough of N %d, K %d = %d, %v", c.N, c.K, enough, err)
	}
	var l []uint
	for set := range uint(1) << c.N {
		if bits.OnesCount(set) == enough {
			l = append(l, set)
		}
	}
	return l
}

// P82: of all N and K, any two; what they have in common is asked of Meet where there are not too many.
func TestTwoQuorumsHaveKInCommon(t *testing.T) {
	everySize(func(c api.Config) {
		least := c.N
		all := quorums(t, c)
		for i, a := range all {
			for _, b := range all[i:] {
				least = min(least, bits.OnesCount(a&b))
				if c.N <= 6 {
					both, err := quorum.Meet(c, chosen(c, a), chosen(c, b))
					if len(both) < c.K || err != nil {
						t.Errorf("N %d, K %d: %b and %b have %q, %v", c.N, c.K, a, b, both, err)
					}
				}
			}
		}
		// Two of one fewer each would have two fewer in common.
		if least < c.K || least-2 >= c.K {
			t.Errorf("N %d, K %d: two quorums have %d in common", c.N, c.K, least)
		}
	})
}

// P82: the first ones and the last ones have the fewest in common.
func TestFirstAndLastQuorumMeet(t *testing.T) {
	everySize(func(c api.Config) {
		enough, _ := quorum.Enough(c)
		both, err := quorum.Meet(c, c.Members[:enough], c.Members[c.N-enough:])
		if len(both) < c.K || !slices.Equal(both, c.Members[c.N-enough:enough]) || err != nil {
			t.Errorf("N %d, K %d: %q, %v", c.N, c.K, both, err)
		}
	})
}
