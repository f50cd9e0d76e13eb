package carry_test

import (
	"math"
	"strconv"
	"testing"

	"shardkeep/api"
	"shardkeep/carry"
	"shardkeep/wire"
)

var tag = api.Tag{N: 3, Who: 1}

// keeping has a carry behind its sealing.
func keeping(t *testing.T, g given) *carry.Carry {
	t.Helper()
	c := begun(t, g)
	sent(t, "sealed", g.hearSealed(t, c, split(versions(t, g.from, tag, "an object"))...), g.keeps(t, tag, "an object"))
	stands(t, "sealed", c, "keeping")
	return c
}

// away are the ways in which a message is not the answer that is waited for.
func away(g given, m wire.Message) map[string]wire.Message {
	l := map[string]wire.Message{}
	add := func(name string, change func(m *wire.Message)) {
		other := m
		change(&other)
		l[name] = other
	}
	for _, to := range []string{"", "Mover", "move", "mover ", "c0", "mover\x00", m.From} {
		add("to "+to, func(m *wire.Message) { m.To = to })
	}
	for _, from := range []string{"", "mover", "stranger", "c0", "NODE-97", "node-9", "node-977", m.From + " "} {
		add("from "+from, func(m *wire.Message) { m.From = from })
	}
	for _, kind := range []string{"", "seal", "sealed", "keep", "kept", "look", "told", "Sealed", "kep", "sealed ", "kept\x00"} {
		if kind != m.Kind {
			add("kind "+kind, func(m *wire.Message) { m.Kind = kind })
		}
	}
	for _, key := range []string{"", "other", g.key + "y", g.key[1:], "KEY"} {
		add("key "+key, func(m *wire.Message) { m.Key = key })
	}
	for _, n := range []int{math.MinInt, -m.Op, m.Op - 1, m.Op + 1, 0, math.MaxInt} {
		add("op "+strconv.Itoa(n), func(m *wire.Message) { m.Op = n })
	}
	for _, n := range []int{math.MinInt, -1, m.Config - 1, m.Config + 1, m.Config + 2, math.MaxInt} {
		add("config "+strconv.Itoa(n), func(m *wire.Message) { m.Config = n })
	}
	add("turned around", func(m *wire.Message) { m.From, m.To = m.To, m.From })
	add("nothing at all", func(m *wire.Message) { *m = wire.Message{} })
	return l
}

// passedAll asks that none of them shows, with Sealed or without.
func passedAll(t *testing.T, name string, c *carry.Carry, l map[string]wire.Message) {
	t.Helper()
	for way, m := range l {
		passed(t, name+", "+way, c, m)
		passed(t, name+", "+way+", with Sealed", c, withSealed(m))
	}
}

// P111: they neither count nor end it; who sent them has not answered by that.
func TestWhatIsNotWaitedForIsPassedOver(t *testing.T) {
	g := ordinary()
	c := begun(t, g)
	all := versions(t, g.from, tag, "an object")
	for i, member := range g.from.Members[:4] {
		m := g.sealed(member, all[i])
		passedAll(t, "sealing", c, away(g, m))
		stands(t, "sealing", c, "sealing")
		if i < 3 {
			sent(t, "sealed", c.Hear(m), nil)
			continue
		}
		sent(t, "sealed", c.Hear(m), g.keeps(t, tag, "an object"))
	}
	for _, member := range g.to.Members[:3] {
		m := g.kept(member)
		passedAll(t, "keeping", c, away(g, m))
		stands(t, "keeping", c, "keeping")
		sent(t, "kept", c.Hear(m), nil)
	}
	doneWith(t, "kept", c, tag, "an object")
}

// P111: who is in one configuration only answers for that one only.
func TestWhoIsInOneConfigurationOnly(t *testing.T) {
	g := ordinary()
	g.to = next(5, 4, 2)
	c := begun(t, g)
	all := versions(t, g.from, tag, "an object")
	for i, member := range g.from.Members[:4] {
		for _, stranger := range g.to.Members {
			passed(t, "of the next one", c, g.sealed(stranger, all[i]))
		}
		stands(t, "sealing", c, "sealing")
		c.Hear(g.sealed(member, all[i]))
	}
	for _, member := range g.to.Members[:3] {
		for _, stranger := range g.from.Members {
			passed(t, "of the old one", c, g.kept(stranger))
			passed(t, "of the old one, with Sealed", c, withSealed(g.kept(stranger)))
		}
		stands(t, "keeping", c, "keeping")
		c.Hear(g.kept(member))
	}
	doneWith(t, "kept", c, tag, "an object")
}

// P111: each answers once of each Kind; what it tells the second time is not read. One that was sealed may keep.
func TestAnAnswerTwice(t *testing.T) {
	g := ordinary()
	g.from, g.to = old(5, 1), next(0, 5, 1)
	c := begun(t, g)
	v := api.Version{Tag: tag, Size: 3, S: api.Shard{At: 0, Text: "abc"}}
	later := api.Version{Tag: api.Tag{N: 99}, Size: 3, S: api.Shard{At: 0, Text: "xyz"}}
	x, y, z := g.from.Members[3], g.from.Members[0], g.from.Members[1]
	sent(t, "the first", c.Hear(g.sealed(x, v)), nil)
	for range 10 {
		passed(t, "again", c, g.sealed(x, later))
		passed(t, "again, with Sealed", c, withSealed(g.sealed(x)))
	}
	sent(t, "the second", c.Hear(g.sealed(y)), nil)
	passed(t, "the second again", c, g.sealed(y, later))
	passed(t, "the first again", c, g.sealed(x))
	stands(t, "two", c, "sealing")
	sent(t, "the third", c.Hear(g.sealed(z)), g.keeps(t, tag, "abc"))
	sent(t, "kept", c.Hear(g.kept(z)), nil)
	for range 10 {
		passed(t, "kept again", c, g.kept(z))
		passed(t, "kept again, with Sealed", c, withSealed(g.kept(z)))
	}
	sent(t, "kept", c.Hear(g.kept(x)), nil)
	passed(t, "kept again, with Sealed", c, withSealed(g.kept(x)))
	stands(t, "two have kept", c, "keeping")
	sent(t, "kept", c.Hear(g.kept(y)), nil)
	doneWith(t, "three have kept", c, tag, "abc")
}

// P111: an answer of the other Kind is not remembered: `kept` ahead of its time, `sealed` behind it.
func TestAnAnswerOfTheOtherKind(t *testing.T) {
	g := ordinary()
	c := begun(t, g)
	for _, member := range g.to.Members {
		passed(t, "kept ahead", c, g.kept(member))
		passed(t, "kept ahead, with Sealed", c, withSealed(g.kept(member)))
	}
	g.hearSealed(t, c, split(versions(t, g.from, tag, "an object"))...)
	newer := versions(t, g.from, api.Tag{N: 50}, "too late")
	for i, member := range g.from.Members {
		passed(t, "sealed behind", c, g.sealed(member, newer...))
		passed(t, "sealed behind, with Sealed", c, withSealed(g.sealed(member, newer[i])))
	}
	g.hearKept(t, c)
	doneWith(t, "kept", c, tag, "an object")
}

// P111: `sealed` is what the mover wants to hear: Sealed beside it, or not, is nobody's matter.
func TestSealedWithSealed(t *testing.T) {
	g := ordinary()
	c := begun(t, g)
	all := versions(t, g.from, tag, "an object")
	for i, member := range g.from.Members[:3] {
		sent(t, "sealed", c.Hear(withSealed(g.sealed(member, all[i]))), nil)
		stands(t, "sealed", c, "sealing")
	}
	sent(t, "sealed", c.Hear(withSealed(g.sealed(g.from.Members[3], all[3]))), g.keeps(t, tag, "an object"))
	stands(t, "sealed", c, "keeping")
	c = begun(t, g)
	for _, member := range g.from.Members[:4] {
		sent(t, "of nothing", c.Hear(withSealed(g.sealed(member))), nil)
	}
	stands(t, "of nothing", c, "done")
}

// P111: what an answer `kept` has in its list is nobody's matter.
func TestKeptWithVersions(t *testing.T) {
	g := ordinary()
	c := keeping(t, g)
	for _, member := range g.to.Members[:3] {
		stands(t, "kept", c, "keeping")
		m := g.kept(member)
		m.L = []api.Version{{Tag: api.Tag{N: 99}}, {Tag: api.Tag{N: -1}}}
		sent(t, "kept", c.Hear(m), nil)
	}
	doneWith(t, "kept", c, tag, "an object")
}

// ended asks that whatever comes, nothing shows any more, and nothing is sent.
func ended(t *testing.T, name string, g given, c *carry.Carry) {
	t.Helper()
	v := api.Version{Tag: api.Tag{N: 1000}, Size: 1, S: api.Shard{Text: "x"}}
	for _, member := range append(named(0, 6), "mover") {
		for _, m := range []wire.Message{g.sealed(member, v), g.kept(member), {From: member, To: "mover", Key: g.key, Op: g.op, Config: g.config}} {
			passed(t, name+", behind its end", c, m)
			passed(t, name+", behind its end, with Sealed", c, withSealed(m))
			passedAll(t, name+", behind its end", c, away(g, m))
		}
	}
	sent(t, name+", Begin behind its end", c.Begin(), nil)
}

// P111: of a `kept` with Sealed that comes behind any number of others, up to the one that would be enough.
func TestRefused(t *testing.T) {
	for _, to := range []api.Config{next(2, 1, 1), next(2, 3, 3), next(2, 5, 1), next(0, 12, 4)} {
		for ahead := range enoughOf(to) {
			g := ordinary()
			g.to = to
			c := keeping(t, g)
			for _, member := range to.Members[:ahead] {
				sent(t, "kept", c.Hear(g.kept(member)), nil)
				stands(t, "kept", c, "keeping")
			}
			sent(t, "with Sealed", c.Hear(withSealed(g.kept(to.Members[ahead]))), nil)
			stands(t, "with Sealed", c, "refused")
			ended(t, "refused", g, c)
			stands(t, "refused", c, "refused")
		}
	}
}

// P111
func TestBehindTheEnd(t *testing.T) {
	g := ordinary()
	c := keeping(t, g)
	g.hearKept(t, c)
	doneWith(t, "kept", c, tag, "an object")
	ended(t, "kept", g, c)
	doneWith(t, "kept", c, tag, "an object")

	c = begun(t, g)
	g.hearSealed(t, c)
	stands(t, "nothing", c, "done")
	ended(t, "nothing", g, c)
	stands(t, "nothing", c, "done")
}

// P111: Begin tells the same until enough are sealed, and nothing behind it; it changes nothing, and an answer ahead of it counts.
func TestBeginAgain(t *testing.T) {
	g := ordinary()
	c := begun(t, g)
	again := func(want []wire.Message) {
		state := c.State()
		for range 3 {
			sent(t, state, c.Begin(), want)
		}
		if c.State() != state {
			t.Errorf("Begin made %s of %s", c.State(), state)
		}
	}
	all := versions(t, g.from, tag, "an object")
	for i, member := range g.from.Members[:4] {
		stands(t, "sealing", c, "sealing")
		if i > 0 {
			again(g.seals())
		}
		c.Hear(g.sealed(member, all[i]))
	}
	for _, member := range g.to.Members[:3] {
		stands(t, "keeping", c, "keeping")
		again(nil)
		c.Hear(g.kept(member))
	}
	doneWith(t, "kept", c, tag, "an object")
	again(nil)
}

// P111: a member may have the mover's name; who it is from and who it is to stay two things.
func TestAMemberByTheNameOfTheMover(t *testing.T) {
	g := ordinary()
	g.from = api.Config{N: 2, K: 2, Members: []string{"mover", "other"}}
	g.to = api.Config{N: 1, K: 1, Members: []string{"mover"}}
	c := begun(t, g)
	sent(t, "Begin", c.Begin(), g.seals())
	all := versions(t, g.from, tag, "an object")
	sent(t, "the first", c.Hear(g.sealed("mover", all[0])), nil)
	wrong := g.sealed("other", all[1])
	wrong.To = "other"
	passed(t, "to the other", c, wrong)
	sent(t, "the second", c.Hear(g.sealed("other", all[1])), g.keeps(t, tag, "an object"))
	passed(t, "of the old one", c, g.kept("other"))
	sent(t, "kept", c.Hear(g.kept("mover")), nil)
	doneWith(t, "kept", c, tag, "an object")
}
