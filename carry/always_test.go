package carry_test

import (
	"math/rand/v2"
	"slices"
	"strconv"
	"testing"

	"shardkeep/api"
	"shardkeep/ask"
	"shardkeep/carry"
	"shardkeep/hold"
	"shardkeep/quorum"
	"shardkeep/serve"
	"shardkeep/wire"
)

// slow tells, from all that was heard, what a carry sends behind the last of it, and how it stands.
type slow struct {
	sent  []wire.Message
	state string
	tag   api.Tag
	text  string
	found bool
}

// firsts are the first answers of a Kind of each member, up to enough of them; and what is left behind them. It tells whether one of them refuses.
func (g given) firsts(kind string, among api.Config, config int, heard []wire.Message) (l, left []wire.Message, refused bool) {
	for i, m := range heard {
		was := slices.ContainsFunc(l, func(x wire.Message) bool { return x.From == m.From })
		if was || m.Kind != kind || !slices.Contains(among.Members, m.From) || m.To != "mover" || m.Op != g.op || m.Config != config || m.Key != g.key {
			continue
		}
		l = append(l, m)
		refused = m.Sealed && kind == "kept"
		if refused || len(l) == enoughOf(among) {
			return l, heard[i+1:], refused
		}
	}
	return l, nil, false
}

func (g given) slow(t *testing.T, heard []wire.Message) slow {
	t.Helper()
	l, left, _ := g.firsts("sealed", g.from, g.config, heard)
	if len(l) < enoughOf(g.from) {
		return slow{state: "sealing"}
	}
	slices.SortFunc(l, func(a, b wire.Message) int {
		return slices.Index(g.from.Members, a.From) - slices.Index(g.from.Members, b.From)
	})
	var lists [][]api.Version
	for _, m := range l {
		lists = append(lists, m.L)
	}
	tag, text, found, err := quorum.Best(g.from, lists)
	if err != nil {
		t.Fatal(err)
	}
	if !found {
		return slow{state: "done"}
	}
	if len(left) == 0 {
		return slow{state: "keeping", sent: g.keeps(t, tag, text)}
	}
	l, _, refused := g.firsts("kept", g.to, g.config+1, left)
	if refused {
		return slow{state: "refused"}
	}
	if len(l) < enoughOf(g.to) {
		return slow{state: "keeping"}
	}
	return slow{state: "done", tag: tag, text: text, found: true}
}

// anything is a message that is often an answer, and sometimes is near one.
func anything(t *testing.T, r *rand.Rand, g given, state string) wire.Message {
	t.Helper()
	m := g.sealed(g.from.Members[r.IntN(g.from.N)])
	if state == "keeping" {
		m = g.kept(g.to.Members[r.IntN(g.to.N)])
	}
	m.Sealed = r.IntN(40) == 0
	for range r.IntN(3) {
		tag := api.Tag{N: r.IntN(4), Who: r.IntN(2)}
		v := versions(t, g.from, tag, []string{"", "ab", "object"}[r.IntN(3)])[r.IntN(g.from.N)]
		switch r.IntN(12) {
		case 0:
			v.Tag.N = maxTag + r.IntN(2)
		case 1:
			v.Tag.Who = -1
		case 2:
			v.S.Text += "x"
		}
		m.L = append(m.L, v)
	}
	switch r.IntN(16) {
	case 0:
		m.Op++
	case 1:
		m.Config += 2*r.IntN(2) - 1
	case 2:
		m.Key += "x"
	case 3:
		m.From = named(0, 12)[r.IntN(12)]
	case 4:
		m.To = "c0"
	case 5:
		m.Kind = []string{"told", "kept", "sealed", ""}[r.IntN(4)]
	}
	return m
}

// P111: of many plays, behind each message, as the document's words say it.
func TestMixtures(t *testing.T) {
	r := rand.New(rand.NewPCG(11, 111))
	ends := map[string]int{}
	for range 3000 {
		g := ordinary()
		n, many := 1+r.IntN(5), 1+r.IntN(5)
		g.from, g.to = old(n, 1+r.IntN(n)), next(r.IntN(4), many, 1+r.IntN(many))
		c := begun(t, g)
		var heard []wire.Message
		state := "sealing"
		for range 4 * (n + many) {
			m := anything(t, r, g, state)
			heard = append(heard, m)
			want := g.slow(t, heard)
			if want.state == state {
				want.sent = nil
			}
			sent(t, "mixture", c.Hear(m), want.sent)
			tag, text, found := c.Answer()
			if c.State() != want.state || tag != want.tag || text != want.text || found != want.found {
				t.Fatalf("heard %v: %s, %v, %q, %v, want %v", heard, c.State(), tag, text, found, want)
			}
			if begins := len(c.Begin()); begins != 0 && (begins != n || c.State() != "sealing") {
				t.Fatalf("%s: Begin sent %d", c.State(), begins)
			}
			state = want.state
		}
		ends[state]++
	}
	for _, state := range []string{"sealing", "keeping", "done", "refused"} {
		if ends[state] < 20 {
			t.Errorf("%v: the mixtures are of no use", ends)
		}
	}
}

// hearer is a client or the mover.
type hearer interface {
	Begin() []wire.Message
	Hear(m wire.Message) []wire.Message
	State() string
	Answer() (api.Tag, string, bool)
}

// net has members, clients and a mover, and loses, doubles and turns around what is between them.
type net struct {
	r       *rand.Rand
	members map[string]*serve.Member
	hearers map[string]hearer
	flying  []wire.Message
}

func newNet(t *testing.T, r *rand.Rand, names []string) *net {
	t.Helper()
	x := &net{r: r, members: map[string]*serve.Member{}, hearers: map[string]hearer{}}
	for _, name := range names {
		m, err := serve.New(name)
		if err != nil {
			t.Fatal(err)
		}
		x.members[name] = m
	}
	return x
}

func (x *net) begin(name string, h hearer) {
	x.hearers[name] = h
	x.flying = append(x.flying, h.Begin()...)
}

// step has one message, any of them, lost, doubled, or heard.
func (x *net) step() {
	if len(x.flying) == 0 {
		return
	}
	at := x.r.IntN(len(x.flying))
	m := x.flying[at]
	fate := x.r.IntN(12)
	if fate > 0 {
		x.flying = slices.Delete(x.flying, at, at+1)
	}
	if fate == 1 {
		return
	}
	if member := x.members[m.To]; member != nil {
		x.flying = append(x.flying, member.Hear(m)...)
	} else if h := x.hearers[m.To]; h != nil {
		x.flying = append(x.flying, h.Hear(m)...)
	}
}

// newest is the greatest tag with which clients were done so far, and its text.
type newest struct {
	tag  api.Tag
	text string
}

// look takes what a client has done into account.
func (n *newest) look(h hearer) {
	if tag, text, found := h.Answer(); found && !hold.Less(tag, n.tag) {
		n.tag, n.text = tag, text
	}
}

// clients put and get in the old configuration for some steps: done has the newest of what they had done at any time.
func (x *net) clients(t *testing.T, g given, steps int, op *int, done *newest) {
	t.Helper()
	for range steps {
		who := x.r.IntN(api.MaxClients)
		name := "c" + strconv.Itoa(who)
		if h := x.hearers[name]; h == nil || h.State() == "done" || h.State() == "refused" {
			*op++
			a, err := ask.Get(who, *op, g.from, g.config, g.key)
			if x.r.IntN(2) == 0 {
				a, err = ask.Put(who, *op, g.from, g.config, g.key, "object "+strconv.Itoa(*op))
			}
			if err != nil {
				t.Fatal(err)
			}
			x.begin(name, a)
		}
		for range 5 {
			x.step()
		}
		for _, h := range x.hearers {
			done.look(h)
		}
	}
}

// has tells how many members of a configuration have, just so, their shard of an object.
func (x *net) has(t *testing.T, c api.Config, config int, key string, n newest) int {
	t.Helper()
	count := 0
	for i, v := range versions(t, c, n.tag, n.text) {
		h := x.members[c.Members[i]].Hold(config)
		if slices.Contains(h.Get(key), v) {
			count++
		}
	}
	return count
}

// moved has the mover carry, while clients go on, until it is done or has waited long.
func (x *net) moved(t *testing.T, g given, op *int, done *newest) *carry.Carry {
	t.Helper()
	*op++
	g.op = *op
	c := begun(t, g)
	x.begin("mover", c)
	for range 400 {
		if c.State() == "done" {
			return c
		}
		x.clients(t, g, 1, op, done)
		if x.r.IntN(8) == 0 {
			x.flying = append(x.flying, c.Begin()...)
		}
	}
	return c
}

// P112: whatever is lost, doubled and turned around, and whoever writes meanwhile: when it is done, what was done in the old one is with enough members of the next one, or something newer is; and nothing is done in the old one any more.
func TestWhatWasDoneIsThereInTheNextOne(t *testing.T) {
	r := rand.New(rand.NewPCG(11, 112))
	moves, objects := 0, 0
	for range 400 {
		n, many := 1+r.IntN(6), 1+r.IntN(6)
		g := given{from: old(n, 1+r.IntN(n)), to: next(r.IntN(8), many, 1+r.IntN(many)), config: r.IntN(3), key: "x"}
		x := newNet(t, r, named(0, 16))
		var done newest
		var op int
		x.clients(t, g, r.IntN(30), &op, &done)
		c := x.moved(t, g, &op, &done)
		if c.State() != "done" {
			stands(t, "not done", c, c.State())
			continue
		}
		moves++
		tag, text, found := c.Answer()
		if found {
			objects++
		}
		check := func(when string) {
			if hold.Less(tag, done.tag) || tag == done.tag && text != done.text || !found && done != (newest{}) {
				t.Fatalf("%s: carried %v, %q, %v: done was %v", when, tag, text, found, done)
			}
		}
		check("behind the move")
		if count := x.has(t, g.to, g.config+1, g.key, newest{tag, text}); found && count < enoughOf(g.to) {
			t.Fatalf("%v is with %d, want %d", tag, count, enoughOf(g.to))
		}
		x.clients(t, g, 40, &op, &done)
		check("later")
	}
	if moves < 150 || objects < 120 {
		t.Errorf("%d moves, of %d objects: of no use", moves, objects)
	}
}

// P112: a Get in the next configuration finds what was put in the old one, over three moves, each to others.
func TestOneMoveBehindAnother(t *testing.T) {
	names := named(0, 16)
	places := []api.Config{{N: 5, K: 3, Members: names[:5]}, {N: 3, K: 1, Members: names[4:7]}, {N: 6, K: 4, Members: names[10:]}, {N: 5, K: 2, Members: names[:5]}}
	x := newNet(t, rand.New(rand.NewPCG(11, 0)), names)
	run := func(name string, h hearer) {
		x.hearers[name] = h
		for flying := h.Begin(); len(flying) > 0; flying = flying[1:] {
			for _, answer := range x.members[flying[0].To].Hear(flying[0]) {
				flying = append(flying, h.Hear(answer)...)
			}
		}
	}
	put, err := ask.Put(2, 0, places[0], 0, "x", "an object")
	if err != nil {
		t.Fatal(err)
	}
	run("c2", put)
	for i := range places[1:] {
		c := begun(t, given{op: 1 + i, from: places[i], to: places[i+1], config: i, key: "x"})
		run("mover", c)
		doneWith(t, "move", c, api.Tag{N: 1, Who: 2}, "an object")
		get, err := ask.Get(3, 10+i, places[i+1], i+1, "x")
		if err != nil {
			t.Fatal(err)
		}
		run("c3", get)
		if tag, text, found := get.Answer(); tag != (api.Tag{N: 1, Who: 2}) || text != "an object" || !found {
			t.Errorf("behind move %d: %s, %v, %q, %v", i, get.State(), tag, text, found)
		}
		late, _ := ask.Put(4, 20+i, places[i], i, "x", "late")
		run("c4", late)
		if late.State() != "refused" {
			t.Errorf("a put in the old one: %s", late.State())
		}
	}
}
