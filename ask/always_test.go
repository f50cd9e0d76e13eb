package ask_test

import (
	"math/rand"
	"slices"
	"testing"

	"shardkeep/api"
	"shardkeep/ask"
	"shardkeep/hold"
	"shardkeep/quorum"
	"shardkeep/wire"
)

// slow tells, from all that was heard, what an ask sends behind the last of it, and how it stands.
type slow struct {
	sent   []wire.Message
	state  string
	tag    api.Tag
	text   string
	found  bool
	counts int
}

// firsts are the first answers of a Kind of each member, up to enough of them or a sealed one; and what is left behind them.
func (g given) firsts(kind string, heard []wire.Message) (l, left []wire.Message, sealed bool) {
	for i, m := range heard {
		was := slices.ContainsFunc(l, func(x wire.Message) bool { return x.From == m.From })
		if was || m.Kind != kind || !slices.Contains(g.c.Members, m.From) || m.To != g.name() || m.Op != g.op || m.Config != g.config || m.Key != g.key {
			continue
		}
		l = append(l, m)
		if m.Sealed || len(l) == enoughOf(g.c) {
			return l, heard[i+1:], m.Sealed
		}
	}
	return l, nil, false
}

func (g given) slow(t *testing.T, put bool, heard []wire.Message) slow {
	t.Helper()
	l, left, sealed := g.firsts("told", heard)
	if sealed {
		return slow{state: "refused", counts: len(l)}
	}
	if len(l) < enoughOf(g.c) {
		return slow{state: "looking", counts: len(l)}
	}
	tag, text := api.Tag{N: 1, Who: g.who}, g.text
	slices.SortFunc(l, func(a, b wire.Message) int {
		return slices.Index(g.c.Members, a.From) - slices.Index(g.c.Members, b.From)
	})
	var lists [][]api.Version
	for _, m := range l {
		lists = append(lists, m.L)
		for _, v := range m.L {
			if put && v.Tag.N >= tag.N && v.Tag.N <= maxTag {
				tag.N = v.Tag.N + 1
			}
		}
	}
	if !put {
		found := false
		if tag, text, found, _ = quorum.Best(g.c, lists); !found {
			return slow{state: "done", counts: len(l)}
		}
	}
	if len(left) == 0 {
		return slow{state: "keeping", sent: g.keeps(t, tag, text)}
	}
	l, _, sealed = g.firsts("kept", left)
	if sealed {
		return slow{state: "refused", counts: len(l)}
	}
	if len(l) < enoughOf(g.c) {
		return slow{state: "keeping", counts: len(l)}
	}
	return slow{state: "done", tag: tag, text: text, found: true, counts: len(l)}
}

// anything is a message that is often an answer, and sometimes is near one.
func anything(t *testing.T, random *rand.Rand, g given, kind string) wire.Message {
	t.Helper()
	m := g.answer(g.c.Members[random.Intn(g.c.N)], kind)
	m.Sealed = random.Intn(60) == 0
	for range random.Intn(3) {
		tag := api.Tag{N: random.Intn(4), Who: random.Intn(2)}
		v := versions(t, g.c, tag, []string{"", "ab", "object"}[random.Intn(3)])[random.Intn(g.c.N)]
		switch random.Intn(12) {
		case 0:
			v.Tag.N = maxTag + random.Intn(2)
		case 1:
			v.Tag.N = -1
		case 2:
			v.S.Text += "x"
		}
		m.L = append(m.L, v)
	}
	switch random.Intn(16) {
	case 0:
		m.Op++
	case 1:
		m.Config--
	case 2:
		m.Key += "x"
	case 3:
		m.From = "stranger"
	case 4:
		m.To = "c0"
	case 5:
		m.Kind = []string{"told", "kept", "sealed", ""}[random.Intn(4)]
	}
	return m
}

// P91 to P93: of many plays, behind each message, as the document's words say it.
func TestAsksOfMixtures(t *testing.T) {
	random := rand.New(rand.NewSource(9))
	ends := map[string]int{}
	for range 3000 {
		g := ordinary()
		n := 1 + random.Intn(5)
		g.c = config(n, 1+random.Intn(n))
		put := random.Intn(2) == 0
		a, err := g.get()
		if put {
			a, err = g.put()
		}
		begun(t, a, err)
		var heard []wire.Message
		state := "looking"
		for range 6 * n {
			kind := map[string]string{"looking": "told", "keeping": "kept"}[state]
			m := anything(t, random, g, kind)
			heard = append(heard, m)
			want := g.slow(t, put, heard)
			if want.state == state {
				want.sent = nil
			}
			sent(t, "mixture", a.Hear(m), want.sent)
			tag, text, found := a.Answer()
			if a.State() != want.state || tag != want.tag || text != want.text || found != want.found {
				t.Fatalf("heard %v: %s, %v, %q, %v, want %v", heard, a.State(), tag, text, found, want)
			}
			if want.state == "done" && want.counts < enoughOf(g.c) {
				t.Fatalf("done with %d of %d", want.counts, enoughOf(g.c))
			}
			state = want.state
		}
		ends[state]++
	}
	for _, state := range []string{"looking", "keeping", "done", "refused"} {
		if ends[state] < 20 {
			t.Errorf("%v: the mixtures are of no use", ends)
		}
	}
}

// net is a net of members with holds of their own, that loses, doubles and turns around.
type net struct {
	random *rand.Rand
	holds  map[string]*hold.Hold
	flying []wire.Message
}

// serve is what a member answers.
func (x *net) serve(m wire.Message) (wire.Message, bool) {
	h := x.holds[m.To]
	out := wire.Message{From: m.To, To: m.From, Key: m.Key, Op: m.Op, Config: m.Config, Sealed: h.Sealed()}
	if m.Kind == "look" {
		out.Kind, out.L = "told", h.Get(m.Key)
		return out, true
	}
	out.Kind = "kept"
	return out, h.Sealed() || h.Put(m.Key, m.L[0]) == nil
}

// step has one message, any of them, lost, doubled, or heard.
func (x *net) step(a *ask.Ask) {
	at := x.random.Intn(len(x.flying))
	m := x.flying[at]
	fate := x.random.Intn(10)
	if fate > 0 {
		x.flying = slices.Delete(x.flying, at, at+1)
	}
	if fate == 1 {
		return
	}
	if x.holds[m.To] == nil {
		x.flying = append(x.flying, a.Hear(m)...)
	} else if answer, ok := x.serve(m); ok {
		x.flying = append(x.flying, answer)
	}
}

// have is how many members hold their shard of an object, just so.
func (x *net) have(t *testing.T, g given, tag api.Tag, text string) int {
	t.Helper()
	count := 0
	for i, v := range versions(t, g.c, tag, text) {
		if slices.Contains(x.holds[g.c.Members[i]].Get(g.key), v) {
			count++
		}
	}
	return count
}

// ask has one client ask, until it ends or nothing flies any more. What its predecessors sent may still come.
func (x *net) ask(t *testing.T, g given, put bool) *ask.Ask {
	t.Helper()
	a, err := g.get()
	if put {
		a, err = g.put()
	}
	begun(t, a, err)
	x.flying = append(x.flying, a.Begin()...)
	for range 10000 {
		if a.State() != "looking" && (a.State() != "keeping" || len(x.flying) == 0) {
			return a
		}
		if len(x.flying) == 0 {
			x.flying = a.Begin()
		}
		x.step(a)
	}
	t.Fatal("it does not end")
	return nil
}

// P93: what is done is with enough members, so that who asks later finds it; also where some never answer.
func TestWhatIsDoneIsWithEnoughMembers(t *testing.T) {
	random := rand.New(rand.NewSource(93))
	finished := 0
	for range 400 {
		g := ordinary()
		n := 1 + random.Intn(6)
		g.c = config(n, 1+random.Intn(n))
		x := net{random: random, holds: map[string]*hold.Hold{}}
		for _, member := range g.c.Members {
			x.holds[member] = &hold.Hold{}
		}
		var last api.Tag
		for op := range 8 {
			put := random.Intn(2) == 0
			g.who, g.op, g.text = random.Intn(api.MaxClients), op, "object "+string(rune('a'+op))
			a := x.ask(t, g, put)
			if a.State() != "done" {
				stands(t, "not done", a, "keeping")
				continue
			}
			finished++
			tag, text, found := a.Answer()
			if found && x.have(t, g, tag, text) < enoughOf(g.c) {
				t.Fatalf("%v is with %d, want %d", tag, x.have(t, g, tag, text), enoughOf(g.c))
			}
			if hold.Less(tag, last) || put && (tag == last || tag.Who != g.who || text != g.text || !found) {
				t.Fatalf("%v, %q, %v behind %v", tag, text, found, last)
			}
			last = tag
		}
	}
	if finished < 500 {
		t.Errorf("%d were done: of no use", finished)
	}
}

// P93: without the last one that is needed nothing is done, however often the others answer.
func TestOneFewerIsNotEnough(t *testing.T) {
	everySize(func(c api.Config) {
		g := ordinary()
		g.c = c
		few := c.Members[:enoughOf(c)-1]
		both(t, g, func(name string, a *ask.Ask, l []api.Version) {
			for range 5 {
				for _, member := range few {
					sent(t, name, a.Hear(g.answer(member, "told", l...)), nil)
				}
			}
			stands(t, name, a, "looking")
		})
		a, err := g.put()
		begun(t, a, err)
		g.hearTold(t, a)
		for range 5 {
			for _, member := range few {
				sent(t, "kept", a.Hear(g.answer(member, "kept")), nil)
			}
		}
		stands(t, "kept", a, "keeping")
	})
}
