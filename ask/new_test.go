package ask_test

import (
	"errors"
	"math"
	"slices"
	"strconv"
	"strings"
	"testing"

	"shardkeep/api"
	"shardkeep/ask"
)

// named has members whose order is not the one of their names.
func named(count int) []string {
	l := make([]string, count)
	for i := range l {
		l[i] = "node-" + strconv.Itoa(99-i)
	}
	return l
}

func config(n, k int) api.Config { return api.Config{N: n, K: k, Members: named(n)} }

// everySize calls f with all configurations whose N and K are in bounds.
func everySize(f func(c api.Config)) {
	for n := 1; n <= api.MaxShards; n++ {
		for k := 1; k <= n; k++ {
			f(config(n, k))
		}
	}
}

// enoughOf is the fewest that are no fewer than half of N and K.
func enoughOf(c api.Config) int {
	enough := 0
	for enough+enough < c.N+c.K {
		enough++
	}
	return enough
}

// given is what Put is given; Get all of it but the text.
type given struct {
	who, op   int
	c         api.Config
	config    int
	key, text string
}

// ordinary is given where nothing is wrong.
func ordinary() given {
	return given{who: 2, op: 7, c: config(3, 2), config: 1, key: "key", text: "an object"}
}

func (g given) put() (*ask.Ask, error) { return ask.Put(g.who, g.op, g.c, g.config, g.key, g.text) }

func (g given) get() (*ask.Ask, error) { return ask.Get(g.who, g.op, g.c, g.config, g.key) }

// begun has an ask that must be there.
func begun(t *testing.T, a *ask.Ask, err error) *ask.Ask {
	t.Helper()
	if a == nil || err != nil {
		t.Fatalf("no ask: %v", err)
	}
	return a
}

// told asks for an error, and its place: with -1 it is bare.
func told(t *testing.T, name string, err, want error, at int) {
	t.Helper()
	var fault *api.Fault
	if at < 0 {
		if err != want || errors.As(err, &fault) {
			t.Errorf("%s: told %#v, want %v bare", name, err, want)
		}
		return
	}
	if !errors.As(err, &fault) || fault.Err != want || fault.At != at {
		t.Errorf("%s: told %#v, want %v at %d", name, err, want, at)
	}
}

// toldByBoth asks Put and Get for an error, and for nothing beside it.
func toldByBoth(t *testing.T, name string, g given, want error, at int) {
	t.Helper()
	put, err := g.put()
	told(t, name+": Put", err, want, at)
	get, err := g.get()
	told(t, name+": Get", err, want, at)
	if (want != nil) != (put == nil) || (want != nil) != (get == nil) {
		t.Errorf("%s: Put %v, Get %v with the error %v", name, put, get, want)
	}
}

// P90: whatever else is wrong, the configuration is told first.
func TestConfigurationsThatAreNone(t *testing.T) {
	for _, c := range []struct {
		name string
		c    api.Config
		want error
		at   int
	}{
		{"zero", api.Config{}, api.ErrBound, -1},
		{"N 0", config(0, 0), api.ErrBound, -1},
		{"K 0", config(3, 0), api.ErrBound, -1},
		{"K below 0", config(3, -1), api.ErrBound, -1},
		{"K above N", config(3, 4), api.ErrBound, -1},
		{"N above MaxShards", config(13, 3), api.ErrBound, -1},
		{"N below 0", api.Config{N: -3, K: 1}, api.ErrBound, -1},
		{"far outside", api.Config{N: math.MaxInt, K: math.MinInt}, api.ErrBound, -1},
		{"no members", api.Config{N: 3, K: 2}, api.ErrShape, -1},
		{"one member too few", api.Config{N: 3, K: 2, Members: named(2)}, api.ErrShape, -1},
		{"one member too many", api.Config{N: 3, K: 2, Members: named(4)}, api.ErrShape, -1},
		{"too few, no names", api.Config{N: 3, K: 2, Members: []string{"", ""}}, api.ErrShape, -1},
		{"no name", api.Config{N: 3, K: 2, Members: []string{"a", "B", "c"}}, api.ErrName, 1},
		{"an empty name", api.Config{N: 1, K: 1, Members: []string{""}}, api.ErrName, 0},
		{"a name too long", api.Config{N: 2, K: 1, Members: []string{"a", strings.Repeat("b", 17)}}, api.ErrName, 1},
		{"twice", api.Config{N: 3, K: 2, Members: []string{"a", "b", "a"}}, api.ErrExist, 2},
		{"twice, ahead of no name", api.Config{N: 3, K: 2, Members: []string{"a", "a", "A"}}, api.ErrExist, 1},
	} {
		g := ordinary()
		g.c = c.c
		toldByBoth(t, c.name, g, c.want, c.at)
		g.key = "no name"
		toldByBoth(t, c.name+", and key", g, c.want, c.at)
		g.who, g.op, g.config, g.text = -1, -1, -1, strings.Repeat("x", api.MaxText+1)
		toldByBoth(t, c.name+", and all", g, c.want, c.at)
	}
}

// P90
func TestConfigurationsOfEverySize(t *testing.T) {
	everySize(func(c api.Config) {
		g := ordinary()
		g.c = c
		toldByBoth(t, strconv.Itoa(c.N)+", "+strconv.Itoa(c.K), g, nil, -1)
	})
}

// P90
func TestKeys(t *testing.T) {
	for _, key := range []string{"k", "0", "-", "a-0", "z9", strings.Repeat("k", 15), strings.Repeat("k", 16)} {
		g := ordinary()
		g.key = key
		toldByBoth(t, key, g, nil, -1)
	}
}

// P90: a key that is none is told ahead of bounds, bare.
func TestKeysThatAreNoNames(t *testing.T) {
	for _, key := range []string{"", " ", "K", "a b", "a_b", "a.b", "key\n", "\x00", "\xff", "é", "a#", "`", "{", "/", ":", strings.Repeat("k", 17), strings.Repeat("k", 1<<16)} {
		g := ordinary()
		g.key = key
		toldByBoth(t, key, g, api.ErrName, -1)
		g.who = api.MaxClients
		toldByBoth(t, key+", and who", g, api.ErrName, -1)
		g = ordinary()
		g.key, g.op = key, -1
		toldByBoth(t, key+", and op", g, api.ErrName, -1)
		g = ordinary()
		g.key, g.config = key, -1
		toldByBoth(t, key+", and config", g, api.ErrName, -1)
		g = ordinary()
		g.key, g.text = key, strings.Repeat("x", api.MaxText+1)
		toldByBoth(t, key+", and text", g, api.ErrName, -1)
	}
}

// P90: each number at its bounds and beyond, alone.
func TestBoundsOfNumbers(t *testing.T) {
	beyond := []int{math.MinInt, math.MinInt32, -2, -1}
	for _, x := range []struct {
		name        string
		place       func(g *given) *int
		fine, wrong []int
	}{
		{"who", func(g *given) *int { return &g.who }, []int{0, 1, 4, 5}, append(slices.Clone(beyond), 6, 7, 256, math.MaxInt)},
		{"op", func(g *given) *int { return &g.op }, []int{0, 1, 1 << 40, math.MaxInt}, beyond},
		{"config", func(g *given) *int { return &g.config }, []int{0, 1, api.MaxConfigs, api.MaxConfigs + 1, math.MaxInt}, beyond},
	} {
		for _, n := range x.fine {
			g := ordinary()
			*x.place(&g) = n
			toldByBoth(t, x.name+" "+strconv.Itoa(n), g, nil, -1)
		}
		for _, n := range x.wrong {
			g := ordinary()
			*x.place(&g) = n
			toldByBoth(t, x.name+" "+strconv.Itoa(n), g, api.ErrBound, -1)
		}
	}
}

// P90
func TestTextsAsLongAsTheyMayBe(t *testing.T) {
	for _, size := range []int{0, 1, api.MaxText - 1, api.MaxText} {
		g := ordinary()
		g.text = strings.Repeat("\xff", size)
		a, err := g.put()
		begun(t, a, err)
	}
	for _, size := range []int{api.MaxText + 1, api.MaxText + 2, 2 * api.MaxText, 1 << 20} {
		g := ordinary()
		g.text = strings.Repeat("\xff", size)
		a, err := g.put()
		told(t, strconv.Itoa(size)+" bytes", err, api.ErrBound, -1)
		if a != nil {
			t.Errorf("an ask beside the error of %d bytes", size)
		}
	}
}

// P90: the name of a client, and what it was made with, are in what it sends.
func TestWhatAnAskIsMadeWith(t *testing.T) {
	for who := range api.MaxClients {
		g := given{who: who, op: 10 * who, c: config(2, 1), config: 3 * who, key: "key-" + strconv.Itoa(who)}
		for name, make := range map[string]func() (*ask.Ask, error){"put": g.put, "get": g.get} {
			a, err := make()
			begun(t, a, err)
			if a.State() != "looking" {
				t.Errorf("%s: %s at first", name, a.State())
			}
			sent(t, name, a.Begin(), g.looks())
		}
	}
}

// P90, P1: names of clients, and of numbers that are no client's.
func TestNames(t *testing.T) {
	for who, want := range map[int]string{0: "c0", 5: "c5", 6: "c6", -1: "c-1", math.MaxInt: "c" + strconv.Itoa(math.MaxInt), math.MinInt: "c" + strconv.Itoa(math.MinInt)} {
		if got := ask.Name(who); got != want {
			t.Errorf("client %d is %q, want %q", who, got, want)
		}
	}
}
