package serve_test

import (
	"math"
	"slices"
	"strconv"
	"strings"
	"testing"

	"shardkeep/api"
	"shardkeep/serve"
	"shardkeep/wire"
)

// P100: of a key with no versions, with one, with many.
func TestLook(t *testing.T) {
	m := member(t)
	answers(t, "nothing", m.Hear(asking("look", 1)), answer("told", 1, false))
	first := version(7, 2, "first")
	keeps(t, m, 1, first)
	answers(t, "one", m.Hear(asking("look", 1)), answer("told", 1, false, first))
	older, newer, between := version(3, 9, "older"), version(8, 0, "newer"), version(7, 1, "between")
	keeps(t, m, 1, newer, older, between)
	for range 3 {
		answers(t, "many", m.Hear(asking("look", 1)), answer("told", 1, false, older, between, first, newer))
	}
}

// P100: all that a hold can have.
func TestLookOfAFullHold(t *testing.T) {
	m := member(t)
	var all []api.Version
	for n := range api.MaxHeld {
		all = append(all, version(n, 3, strings.Repeat("x", api.MaxText)))
	}
	keeps(t, m, 0, all...)
	answers(t, "full", m.Hear(asking("look", 0)), answer("told", 0, false, all...))
	answers(t, "one more", m.Hear(asking("keep", 0, version(100, 3, "more"))))
	answers(t, "one that is there", m.Hear(asking("keep", 0, all[9])), answer("kept", 0, false))
	answers(t, "full still", m.Hear(asking("look", 0)), answer("told", 0, false, all...))
	keeps(t, m, 1, version(100, 3, "more"))
	answers(t, "seal", m.Hear(asking("seal", 0)), answer("sealed", 0, false, all...))
}

// P100: keys of one configuration know nothing of each other, but for the seal.
func TestKeys(t *testing.T) {
	m := member(t)
	of := func(key string, x wire.Message) wire.Message {
		x.Key = key
		return x
	}
	keys := []string{"a", "b", "-", strings.Repeat("k", 16)}
	for i, key := range keys {
		answers(t, key, m.Hear(of(key, asking("keep", 1, version(i, 0, key)))), of(key, answer("kept", 1, false)))
	}
	for i, key := range keys {
		answers(t, key, m.Hear(of(key, asking("look", 1))), of(key, answer("told", 1, false, version(i, 0, key))))
	}
	answers(t, "seal", m.Hear(of("b", asking("seal", 1))), of("b", answer("sealed", 1, false, version(1, 0, "b"))))
	for i, key := range keys {
		answers(t, key, m.Hear(of(key, asking("look", 1))), of(key, answer("told", 1, true, version(i, 0, key))))
		answers(t, key, m.Hear(of(key, asking("keep", 1, version(9, 0, key)))), of(key, answer("kept", 1, true)))
	}
	answers(t, "a key with nothing", m.Hear(of("c", asking("seal", 1))), of("c", answer("sealed", 1, false)))
}

// P100: the bounds themselves are kept.
func TestKeepAtTheBounds(t *testing.T) {
	const most = 1 << 40
	for i, v := range []api.Version{
		{},
		{Tag: api.Tag{N: most}},
		{Tag: api.Tag{Who: most}},
		{Size: api.MaxText},
		{S: api.Shard{At: api.MaxShards - 1}},
		{S: api.Shard{Text: strings.Repeat("x", api.MaxText)}},
		{Tag: api.Tag{N: most, Who: most}, Size: 1, S: api.Shard{At: 11, Text: "\x00\xff"}},
	} {
		m := member(t)
		keeps(t, m, 2, v, v)
		answers(t, strconv.Itoa(i), m.Hear(asking("look", 2)), answer("told", 2, false, v))
	}
}

// outOfBounds are versions that no hold takes.
func outOfBounds() []api.Version {
	const more = 1<<40 + 1
	return []api.Version{
		{Tag: api.Tag{N: -1}}, {Tag: api.Tag{N: more}}, {Tag: api.Tag{Who: -1}}, {Tag: api.Tag{Who: more}},
		{Size: -1}, {Size: api.MaxText + 1},
		{S: api.Shard{At: -1}}, {S: api.Shard{At: api.MaxShards}},
		{S: api.Shard{Text: strings.Repeat("x", api.MaxText+1)}},
		{Tag: api.Tag{N: math.MinInt, Who: math.MaxInt}, Size: math.MinInt, S: api.Shard{At: math.MaxInt}},
	}
}

// P100: an error of the hold is no answer, and nothing is put; behind a seal the seal is told ahead of it.
func TestKeepOutOfBounds(t *testing.T) {
	m := member(t)
	v := version(1, 0, "kept")
	keeps(t, m, 1, v)
	for i, wrong := range outOfBounds() {
		answers(t, strconv.Itoa(i), m.Hear(asking("keep", 1, wrong)))
		answers(t, strconv.Itoa(i), m.Hear(asking("look", 1)), answer("told", 1, false, v))
	}
	m.Hear(asking("seal", 1))
	for i, wrong := range outOfBounds() {
		answers(t, strconv.Itoa(i)+", sealed", m.Hear(asking("keep", 1, wrong)), answer("kept", 1, true))
		answers(t, strconv.Itoa(i)+", sealed", m.Hear(asking("look", 1)), answer("told", 1, true, v))
	}
}

// P100: of a tag that is there, just the same one is kept once more.
func TestKeepOfATagThatIsThere(t *testing.T) {
	m := member(t)
	v := version(5, 1, "text")
	keeps(t, m, 1, v, v, v)
	for _, change := range []func(*api.Version){
		func(v *api.Version) { v.Size++ },
		func(v *api.Version) { v.S.At++ },
		func(v *api.Version) { v.S.Text = "tex" },
		func(v *api.Version) { v.S.Text = "texT" },
	} {
		other := v
		change(&other)
		answers(t, "another one", m.Hear(asking("keep", 1, other)))
		answers(t, "what was there", m.Hear(asking("look", 1)), answer("told", 1, false, v))
		keeps(t, m, 1, v)
	}
}

// P100
func TestKeepOfNoneAndOfMany(t *testing.T) {
	m := member(t)
	v, w := version(1, 0, "one"), version(2, 0, "two")
	for name, l := range map[string][]api.Version{"nil": nil, "none": {}, "two": {v, w}, "twice": {v, v}, "many": make([]api.Version, 100)} {
		answers(t, name, m.Hear(asking("keep", 1, l...)))
		answers(t, name, m.Hear(asking("look", 1)), answer("told", 1, false))
	}
	m.Hear(asking("seal", 1))
	for name, l := range map[string][]api.Version{"nil": nil, "none": {}, "two": {v, w}, "twice": {v, v}} {
		answers(t, name+", sealed", m.Hear(asking("keep", 1, l...)))
	}
}

// P100: `sealed` has no Sealed; that it is, look and keep tell.
func TestSeal(t *testing.T) {
	m := member(t)
	v, w := version(2, 0, "two"), version(1, 0, "one")
	keeps(t, m, 1, v, w)
	for range 3 {
		answers(t, "seal", m.Hear(asking("seal", 1)), answer("sealed", 1, false, w, v))
		answers(t, "look", m.Hear(asking("look", 1)), answer("told", 1, true, w, v))
		answers(t, "keep", m.Hear(asking("keep", 1, version(3, 0, "three"))), answer("kept", 1, true))
		answers(t, "keep of what is there", m.Hear(asking("keep", 1, v)), answer("kept", 1, true))
		answers(t, "keep of another one of its tag", m.Hear(asking("keep", 1, version(2, 0, "TWO"))), answer("kept", 1, true))
	}
	answers(t, "another configuration", m.Hear(asking("look", 2)), answer("told", 2, false))
	keeps(t, m, 2, v)
	answers(t, "another configuration", m.Hear(asking("seal", 2)), answer("sealed", 2, false, v))
}

// P100: a seal may be all that was asked for.
func TestSealOfNothing(t *testing.T) {
	m := member(t)
	answers(t, "seal", m.Hear(asking("seal", 3)), answer("sealed", 3, false))
	answers(t, "look", m.Hear(asking("look", 3)), answer("told", 3, true))
	answers(t, "keep", m.Hear(asking("keep", 3, version(1, 1, "one"))), answer("kept", 3, true))
	if h := m.Hold(3); h == nil || !h.Sealed() || h.Count() != 0 {
		t.Errorf("the hold is %v", h)
	}
}

// P100: what an ask is not asked for is nobody's matter: Sealed, and the versions of look and seal.
func TestWhatElseAnAskHas(t *testing.T) {
	m := member(t)
	v := version(1, 0, "one")
	for kind, want := range map[string]string{"look": "told", "seal": "sealed"} {
		config := len(kind + want)
		keeps(t, m, config, v)
		x := asking(kind, config, version(9, 9, "nine"), version(-1, -1, ""))
		x.Sealed = true
		answers(t, kind, m.Hear(x), answer(want, config, false, v))
	}
	x := asking("keep", 3, v)
	x.Sealed = true
	answers(t, "keep", m.Hear(x), answer("kept", 3, false))
	answers(t, "look", m.Hear(asking("look", 3)), answer("told", 3, false, v))
}

// P100: From, Op and Config of an answer are those of the ask, whatever they are.
func TestWhoAsksAndWhatIsAnswered(t *testing.T) {
	for _, from := range []string{"", "c5", "mover", "member", "A", "no name\x00", strings.Repeat("long", 1000)} {
		for _, number := range []int{math.MinInt, -1, 0, 1, math.MaxInt} {
			m := member(t)
			config := max(0, number)
			for _, kinds := range [][2]string{{"look", "told"}, {"keep", "kept"}, {"seal", "sealed"}} {
				x, want := asking(kinds[0], config), answer(kinds[1], config, false)
				if kinds[0] == "keep" {
					x.L = []api.Version{version(1, 1, "one")}
				}
				if kinds[0] == "seal" {
					want.L = []api.Version{version(1, 1, "one")}
				}
				x.From, x.Op, want.To, want.Op = from, number, from, number
				answers(t, kinds[0]+" of "+from, m.Hear(x), want)
			}
		}
	}
}

// passedOver are messages that no member answers, made of one that it would.
func passedOver(x wire.Message) []wire.Message {
	var l []wire.Message
	change := func(f func(x *wire.Message)) {
		y := x
		f(&y)
		l = append(l, y)
	}
	for _, to := range []string{"", "c0", "membe", "memberr", "Member", "member ", strings.Repeat("member", 1000)} {
		change(func(x *wire.Message) { x.To = to })
	}
	for _, kind := range []string{"", "told", "kept", "sealed", "Look", "KEEP", "seal ", "loo", "looks", "what", x.Kind + "\x00"} {
		change(func(x *wire.Message) { x.Kind = kind })
	}
	for _, config := range []int{-1, -x.Config - 1, math.MinInt} {
		change(func(x *wire.Message) { x.Config = config })
	}
	for _, key := range noNames() {
		change(func(x *wire.Message) { x.Key = key })
	}
	return l
}

// state is all that a member tells of a configuration and a key.
func state(m *serve.Member, config int) wire.Message {
	x := answer("", config, false)
	if h := m.Hold(config); h != nil {
		x.Kind, x.Sealed, x.L = "hold", h.Sealed(), h.Get("key")
	}
	return x
}

// P100: not to it, of another Kind, a Config below 0, a Key that is no name: nothing happens.
func TestWhatIsPassedOver(t *testing.T) {
	v, w := version(1, 0, "one"), version(2, 0, "two")
	for _, x := range []wire.Message{asking("look", 1), asking("keep", 1, v), asking("seal", 1)} {
		for i, y := range passedOver(x) {
			name := x.Kind + ", " + strconv.Itoa(i)
			m := member(t)
			answers(t, name, m.Hear(y))
			for _, config := range []int{y.Config, -1, 0, 1} {
				if m.Hold(config) != nil {
					t.Errorf("%s: there is a hold of %d", name, config)
				}
			}
			keeps(t, m, 1, w)
			before := state(m, 1)
			answers(t, name, m.Hear(y))
			if after := state(m, 1); !same(before, after) {
				t.Errorf("%s: %v has become %v", name, before, after)
			}
			m.Hear(asking("seal", 1))
			answers(t, name+", sealed", m.Hear(y))
			if m.Hold(1).Count() != 1 || !slices.Equal(m.Hold(1).Keys(), []string{"key"}) {
				t.Errorf("%s: it holds %v", name, m.Hold(1))
			}
		}
	}
}
