package ask_test

import (
	"math"
	"strconv"
	"testing"

	"shardkeep/api"
	"shardkeep/ask"
	"shardkeep/wire"
)

// five has five members, of which three are enough.
func five() given {
	g := ordinary()
	g.c = config(5, 1)
	return g
}

// both calls f with a put and a get that have just begun, and with what makes the get go on to keep.
func both(t *testing.T, g given, f func(name string, a *ask.Ask, l []api.Version)) {
	t.Helper()
	a, err := g.put()
	f("put", begun(t, a, err), nil)
	b, err := g.get()
	f("get", begun(t, b, err), versions(t, g.c, api.Tag{N: 3, Who: 1}, "told")[:1])
}

// away are the ways in which a message is not the answer that is waited for.
func away(g given, m wire.Message) map[string]wire.Message {
	l := map[string]wire.Message{}
	add := func(name string, change func(m *wire.Message)) {
		other := m
		change(&other)
		l[name] = other
	}
	for _, to := range []string{"", "c", "c1", "c02", "c22", "C2", "2", "c2 ", g.c.Members[0], m.From, "mover"} {
		add("to "+to, func(m *wire.Message) { m.To = to })
	}
	for _, from := range []string{"", "stranger", g.name(), "NODE-99", "node-9", "node-999", m.From + " ", "mover"} {
		add("from "+from, func(m *wire.Message) { m.From = from })
	}
	kinds := []string{"", "look", "keep", "told", "kept", "seal", "sealed", "Told", "tol", "told ", "kept\x00"}
	for _, kind := range kinds {
		if kind != m.Kind {
			add("kind "+kind, func(m *wire.Message) { m.Kind = kind })
		}
	}
	for _, key := range []string{"", "other", g.key + "y", g.key[1:], "KEY"} {
		add("key "+key, func(m *wire.Message) { m.Key = key })
	}
	for _, n := range []int{math.MinInt, -1, 0, 2, 6, 8, math.MaxInt} {
		add("op "+strconv.Itoa(n), func(m *wire.Message) { m.Op = n })
		add("config "+strconv.Itoa(n), func(m *wire.Message) { m.Config = n })
	}
	add("turned around", func(m *wire.Message) { m.From, m.To = m.To, m.From })
	add("nothing at all", func(m *wire.Message) { *m = wire.Message{} })
	return l
}

// passedAll asks that none of them shows, sealed or not.
func passedAll(t *testing.T, name string, a *ask.Ask, l map[string]wire.Message) {
	t.Helper()
	for way, m := range l {
		passed(t, name+", "+way, a, m)
		m.Sealed = true
		passed(t, name+", "+way+", sealed", a, m)
	}
}

// P92: they neither count nor end it; who sent them has not answered by that.
func TestWhatIsNotWaitedForIsPassedOver(t *testing.T) {
	g := five()
	both(t, g, func(name string, a *ask.Ask, l []api.Version) {
		for i, member := range g.c.Members[:3] {
			m := g.answer(member, "told", l...)
			passedAll(t, name+" looking", a, away(g, m))
			stands(t, name, a, "looking")
			if i < 2 {
				sent(t, name, a.Hear(m), nil)
				continue
			}
			if got := a.Hear(m); len(got) != 5 || got[0].Kind != "keep" {
				t.Errorf("%s: sent %v", name, got)
			}
		}
		for _, member := range g.c.Members[2:] {
			stands(t, name, a, "keeping")
			m := g.answer(member, "kept")
			passedAll(t, name+" keeping", a, away(g, m))
			stands(t, name, a, "keeping")
			sent(t, name, a.Hear(m), nil)
		}
		if a.State() != "done" {
			t.Errorf("%s: %s", name, a.State())
		}
	})
}

// P92: each answers once of each Kind; one that told may keep.
func TestAnAnswerTwice(t *testing.T) {
	g := five()
	both(t, g, func(name string, a *ask.Ask, l []api.Version) {
		x, y, z := g.c.Members[3], g.c.Members[0], g.c.Members[1]
		sent(t, name, a.Hear(g.answer(x, "told", l...)), nil)
		for range 10 {
			passed(t, name+", again", a, g.answer(x, "told"))
			passed(t, name+", again and sealed", a, g.sealed(x, "told", l...))
		}
		sent(t, name, a.Hear(g.answer(y, "told")), nil)
		passed(t, name+", again", a, g.answer(y, "told", l...))
		passed(t, name+", the first again", a, g.sealed(x, "told"))
		if got := a.Hear(g.answer(z, "told")); len(got) != 5 {
			t.Errorf("%s: sent %v", name, got)
		}
		sent(t, name, a.Hear(g.answer(z, "kept")), nil)
		for range 10 {
			passed(t, name+", kept again", a, g.answer(z, "kept"))
			passed(t, name+", kept again and sealed", a, g.sealed(z, "kept"))
		}
		sent(t, name, a.Hear(g.answer(x, "kept")), nil)
		passed(t, name+", kept again", a, g.sealed(x, "kept"))
		stands(t, name, a, "keeping")
		sent(t, name, a.Hear(g.answer(y, "kept")), nil)
		if a.State() != "done" {
			t.Errorf("%s: %s", name, a.State())
		}
	})
}

// P92: an answer of the other Kind is not remembered: `kept` ahead of its time, `told` behind it.
func TestAnAnswerOfTheOtherKind(t *testing.T) {
	g := five()
	both(t, g, func(name string, a *ask.Ask, l []api.Version) {
		for _, member := range g.c.Members {
			passed(t, name+", kept ahead", a, g.answer(member, "kept"))
			passed(t, name+", kept ahead and sealed", a, g.sealed(member, "kept"))
		}
		if got := g.hearTold(t, a, l); len(got) != 5 {
			t.Errorf("%s: sent %v", name, got)
		}
		for _, member := range g.c.Members {
			passed(t, name+", told behind", a, g.answer(member, "told", number(9)))
			passed(t, name+", told behind and sealed", a, g.sealed(member, "told", number(9)))
		}
		g.hearKept(t, a)
		if a.State() != "done" {
			t.Errorf("%s: %s", name, a.State())
		}
	})
}

// ended asks that whatever comes, nothing shows any more, and nothing but what it sends first is sent.
func ended(t *testing.T, name string, g given, a *ask.Ask) {
	t.Helper()
	for _, member := range g.c.Members {
		for _, kind := range []string{"told", "kept", "", "look", "sealed"} {
			m := g.answer(member, kind, number(1000))
			passed(t, name+", behind its end: "+kind, a, m)
			passedAll(t, name+", behind its end", a, away(g, m))
			m.Sealed = true
			passed(t, name+", behind its end and sealed: "+kind, a, m)
		}
	}
	sent(t, name+", Begin behind its end", a.Begin(), g.looks())
}

// P91, P92: of a sealed `told` that comes behind any number of others, up to the one that would be enough.
func TestRefusedWhileLooking(t *testing.T) {
	for _, c := range []api.Config{config(1, 1), config(3, 3), config(5, 1), config(12, 4)} {
		g := ordinary()
		g.c = c
		for ahead := range enoughOf(c) {
			both(t, g, func(name string, a *ask.Ask, l []api.Version) {
				for _, member := range c.Members[:ahead] {
					sent(t, name, a.Hear(g.answer(member, "told", l...)), nil)
				}
				sent(t, name, a.Hear(g.sealed(c.Members[ahead], "told", l...)), nil)
				stands(t, name, a, "refused")
				ended(t, name, g, a)
				stands(t, name, a, "refused")
			})
		}
	}
}

// P91, P92
func TestRefusedWhileKeeping(t *testing.T) {
	for _, c := range []api.Config{config(1, 1), config(3, 3), config(5, 1), config(12, 4)} {
		g := ordinary()
		g.c = c
		for ahead := range enoughOf(c) {
			a, err := g.put()
			begun(t, a, err)
			g.hearTold(t, a)
			for _, member := range c.Members[:ahead] {
				sent(t, "kept", a.Hear(g.answer(member, "kept")), nil)
				stands(t, "kept", a, "keeping")
			}
			sent(t, "sealed", a.Hear(g.sealed(c.Members[ahead], "kept")), nil)
			stands(t, "sealed", a, "refused")
			ended(t, "sealed", g, a)
			stands(t, "sealed", a, "refused")
		}
	}
}

// P92: of a put, of a get that found something, of one that did not.
func TestBehindTheEnd(t *testing.T) {
	g := five()
	a, err := g.put()
	begun(t, a, err)
	g.hearTold(t, a)
	g.hearKept(t, a)
	ended(t, "put", g, a)
	doneWith(t, "put", a, api.Tag{N: 1, Who: 2}, g.text)

	a, err = g.get()
	begun(t, a, err)
	g.hearTold(t, a, versions(t, g.c, api.Tag{N: 3}, "told"))
	g.hearKept(t, a)
	ended(t, "get", g, a)
	doneWith(t, "get", a, api.Tag{N: 3}, "told")

	a, err = g.get()
	begun(t, a, err)
	g.hearTold(t, a)
	stands(t, "get", a, "done")
	ended(t, "get of nothing", g, a)
	stands(t, "get", a, "done")
}

// P92: Begin tells the same at any time, and changes nothing: also an answer ahead of it counts.
func TestBeginAgain(t *testing.T) {
	g := five()
	both(t, g, func(name string, a *ask.Ask, l []api.Version) {
		again := func() {
			state := a.State()
			for range 3 {
				sent(t, name+", "+state, a.Begin(), g.looks())
			}
			if a.State() != state {
				t.Errorf("%s: Begin made %s of %s", name, a.State(), state)
			}
		}
		for _, member := range g.c.Members[:3] {
			a.Hear(g.answer(member, "told", l...))
			again()
		}
		for _, member := range g.c.Members[:3] {
			stands(t, name, a, "keeping")
			a.Hear(g.answer(member, "kept"))
			again()
		}
		if a.State() != "done" {
			t.Errorf("%s: %s", name, a.State())
		}
	})
}

// P92: what an answer `kept` has in its list is nobody's matter.
func TestKeptWithVersions(t *testing.T) {
	g := five()
	a, err := g.put()
	begun(t, a, err)
	g.hearTold(t, a)
	for _, member := range g.c.Members[:3] {
		stands(t, "kept", a, "keeping")
		sent(t, "kept", a.Hear(g.answer(member, "kept", number(99), number(-1))), nil)
	}
	doneWith(t, "kept", a, api.Tag{N: 1, Who: 2}, g.text)
}

// P92: a member may have a client's name; who it is from and who it is to stay two things.
func TestAMemberByTheNameOfTheClient(t *testing.T) {
	g := ordinary()
	g.c = api.Config{N: 2, K: 2, Members: []string{"c2", "c3"}}
	a, err := g.put()
	begun(t, a, err)
	sent(t, "Begin", a.Begin(), g.looks())
	sent(t, "the first", a.Hear(g.answer("c2", "told")), nil)
	passed(t, "to c3", a, wire.Message{From: "c2", To: "c3", Kind: "told", Key: g.key, Op: g.op, Config: g.config})
	sent(t, "the second", a.Hear(g.answer("c3", "told")), g.keeps(t, api.Tag{N: 1, Who: 2}, g.text))
}
