package carry_test

import (
	"errors"
	"math"
	"strconv"
	"strings"
	"testing"

	"shardkeep/api"
	"shardkeep/carry"
)

// named has members whose order is not the one of their names; with first the same for two lists, they have members in common.
func named(first, count int) []string {
	l := make([]string, count)
	for i := range l {
		l[i] = "node-" + strconv.Itoa(99-first-i)
	}
	return l
}

// old is a configuration of members 0 to n - 1.
func old(n, k int) api.Config { return api.Config{N: n, K: k, Members: named(0, n)} }

// next is a configuration of members from number first on.
func next(first, n, k int) api.Config { return api.Config{N: n, K: k, Members: named(first, n)} }

// enoughOf is the fewest that are no fewer than half of N and K.
func enoughOf(c api.Config) int {
	enough := 0
	for enough+enough < c.N+c.K {
		enough++
	}
	return enough
}

// given is what New is given.
type given struct {
	op       int
	from, to api.Config
	config   int
	key      string
}

// ordinary is given where nothing is wrong: two of the members go, two others come; three of five shards are enough, then two of four.
func ordinary() given {
	return given{op: 7, from: old(5, 3), to: next(2, 4, 2), config: 1, key: "key"}
}

func (g given) carry() (*carry.Carry, error) { return carry.New(g.op, g.from, g.to, g.config, g.key) }

// begun has a carry that must be there.
func begun(t *testing.T, g given) *carry.Carry {
	t.Helper()
	c, err := g.carry()
	if c == nil || err != nil {
		t.Fatalf("no carry: %v", err)
	}
	return c
}

// told asks for an error, and its place: with -1 it is bare; and for no carry beside it.
func told(t *testing.T, name string, g given, want error, at int) {
	t.Helper()
	c, err := g.carry()
	if (c == nil) != (want != nil) {
		t.Errorf("%s: carry %v beside %v", name, c, want)
	}
	var fault *api.Fault
	switch {
	case at < 0 && err != want:
		t.Errorf("%s: told %v, want %v", name, err, want)
	case at >= 0 && (!errors.As(err, &fault) || fault.At != at || fault.Err != want):
		t.Errorf("%s: told %v, want %v at %d", name, err, want, at)
	}
}

type refusal struct {
	name string
	c    api.Config
	want error
	at   int
}

// refusals are configurations that quorum.Check refuses.
func refusals() []refusal {
	return []refusal{
		{"zero", api.Config{}, api.ErrBound, -1},
		{"K 0", old(3, 0), api.ErrBound, -1},
		{"K above N", old(3, 4), api.ErrBound, -1},
		{"N above MaxShards", old(13, 3), api.ErrBound, -1},
		{"N below 0", api.Config{N: -3, K: 1}, api.ErrBound, -1},
		{"far outside", api.Config{N: math.MaxInt, K: math.MinInt}, api.ErrBound, -1},
		{"no members", api.Config{N: 3, K: 2}, api.ErrShape, -1},
		{"one member too few", api.Config{N: 3, K: 2, Members: named(0, 2)}, api.ErrShape, -1},
		{"one member too many", api.Config{N: 3, K: 2, Members: named(0, 4)}, api.ErrShape, -1},
		{"no name", api.Config{N: 3, K: 2, Members: []string{"a", "B", "c"}}, api.ErrName, 1},
		{"a name too long", api.Config{N: 2, K: 1, Members: []string{"a", strings.Repeat("b", 17)}}, api.ErrName, 1},
		{"twice", api.Config{N: 3, K: 2, Members: []string{"a", "b", "a"}}, api.ErrExist, 2},
		{"an empty name", api.Config{N: 1, K: 1, Members: []string{""}}, api.ErrName, 0},
	}
}

// spoilt has all wrong but its configurations.
func (g given) spoilt() given {
	g.op, g.config, g.key = -1, -1, "no name"
	return g
}

// P110: of from, ahead of all else.
func TestRefusedFrom(t *testing.T) {
	for _, x := range refusals() {
		g := ordinary()
		g.from = x.c
		told(t, x.name, g, x.want, x.at)
		told(t, x.name+", and all else", g.spoilt(), x.want, x.at)
		for _, y := range refusals() {
			g.to = y.c
			told(t, x.name+", and to: "+y.name, g, x.want, x.at)
		}
	}
}

// P110: of to, ahead of all but from.
func TestRefusedTo(t *testing.T) {
	for _, x := range refusals() {
		g := ordinary()
		g.to = x.c
		told(t, x.name, g, x.want, x.at)
		g.key = ""
		told(t, x.name+", and key", g, x.want, x.at)
		told(t, x.name+", and all else", g.spoilt(), x.want, x.at)
		g = ordinary()
		g.to, g.config = x.c, math.MaxInt
		told(t, x.name+", and config", g, x.want, x.at)
	}
}

// P110: any two configurations, of one size or not, with all members in common, some or none.
func TestConfigurationsOfEverySize(t *testing.T) {
	for n := 1; n <= api.MaxShards; n++ {
		for k := 1; k <= n; k++ {
			for _, first := range []int{0, 1, 12} {
				g := ordinary()
				g.from, g.to = old(n, k), next(first, api.MaxShards+1-n, 1)
				told(t, "n", g, nil, -1)
				g.from, g.to = g.to, g.from
				told(t, "turned", g, nil, -1)
				g.from = g.to
				told(t, "the same", g, nil, -1)
			}
		}
	}
}

// P110
func TestKeys(t *testing.T) {
	for _, key := range []string{"k", "0", "-", "a-0", "z9", "mover", strings.Repeat("k", 15), strings.Repeat("k", 16)} {
		g := ordinary()
		g.key = key
		told(t, key, g, nil, -1)
	}
}

// P110: a key that is none is told ahead of bounds, bare.
func TestKeysThatAreNoNames(t *testing.T) {
	for _, key := range []string{"", " ", "K", "a b", "a_b", "a.b", "key\n", "\x00", "\xff", "é", "`", "{", "/", ":", strings.Repeat("k", 17), strings.Repeat("k", 1<<16)} {
		g := ordinary()
		g.key = key
		told(t, key, g, api.ErrName, -1)
		g.op = -1
		told(t, key+", and op", g, api.ErrName, -1)
		for _, config := range []int{-1, math.MaxInt} {
			g = ordinary()
			g.key, g.config = key, config
			told(t, key+", and config", g, api.ErrName, -1)
		}
	}
}

// P110: each number at its bounds and beyond, alone: the greatest int has no number behind it.
func TestBoundsOfNumbers(t *testing.T) {
	for _, op := range []int{0, 1, 1 << 40, math.MaxInt - 1, math.MaxInt} {
		g := ordinary()
		g.op = op
		told(t, "op "+strconv.Itoa(op), g, nil, -1)
	}
	for _, config := range []int{0, 1, api.MaxConfigs, 1 << 40, math.MaxInt - 1} {
		g := ordinary()
		g.config = config
		told(t, "config "+strconv.Itoa(config), g, nil, -1)
	}
	for _, n := range []int{-1, -2, math.MinInt32, math.MinInt} {
		g := ordinary()
		g.op = n
		told(t, "op "+strconv.Itoa(n), g, api.ErrBound, -1)
		g = ordinary()
		g.config = n
		told(t, "config "+strconv.Itoa(n), g, api.ErrBound, -1)
	}
	g := ordinary()
	g.config = math.MaxInt
	told(t, "the greatest int", g, api.ErrBound, -1)
}

// P110, P111: its name, and what it was made with, are in what it sends; at the edges of the numbers, too.
func TestWhatACarryIsMadeWith(t *testing.T) {
	for _, config := range []int{0, 3, math.MaxInt - 1} {
		for _, op := range []int{0, 5, math.MaxInt} {
			g := ordinary()
			g.op, g.config, g.key = op, config, "key-"+strconv.Itoa(op%9)
			c := begun(t, g)
			stands(t, "at first", c, "sealing")
			sent(t, "Begin", c.Begin(), g.seals())
			tag := api.Tag{N: 4, Who: 1}
			sent(t, "sealed", g.hearSealed(t, c, split(versions(t, g.from, tag, "an object"))...), g.keeps(t, tag, "an object"))
			g.hearKept(t, c)
			doneWith(t, "kept", c, tag, "an object")
		}
	}
}

// P110
func TestName(t *testing.T) {
	if carry.Name != "mover" {
		t.Errorf("its name is %q", carry.Name)
	}
}
