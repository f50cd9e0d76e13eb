package world_test

import (
	"math/rand/v2"
	"slices"
	"strconv"
	"strings"
	"testing"

	"shardkeep/api"
	"shardkeep/hold"
	"shardkeep/wire"
	"shardkeep/world"
)

// watch looks at a world from outside: which text was put with which tag.
type watch struct {
	t *testing.T
	w *world.World
	// By client: the text of its Put that has not ended; a Get has none.
	texts map[int]string
	// By tag: what its client put with it, done or not. These may be several: one that was refused, and not carried, may be done with a lesser tag, and then the tag comes again.
	put map[api.Tag][]string
}

// kept is the last version that a client sent to be kept.
func (x watch) kept(who int) api.Version {
	x.t.Helper()
	l := x.w.Flying()
	for _, m := range slices.Backward(l) {
		if m.From == "c"+strconv.Itoa(who) && m.Kind == "keep" {
			return m.L[0]
		}
	}
	x.t.Fatalf("client %d keeps nothing: %v", who, l)
	return api.Version{}
}

// step has a step done, and notes with which tag a client that puts begins to keep: of what it sends then at least the first has room.
func (x watch) step(s step, text string) {
	x.t.Helper()
	var was [api.MaxClients]string
	for who := range was {
		was[who] = x.w.State(who)
	}
	err := s.call(worldlyOf(x.w))
	for who := range was {
		now := x.w.State(who)
		if err == nil && was[who] == "idle" && now == "looking" {
			delete(x.texts, who)
			if strings.HasPrefix(s.name, "Put") {
				x.texts[who] = text
			}
		}
		put, puts := x.texts[who]
		if !puts || was[who] != "looking" || now != "keeping" {
			continue
		}
		tag := x.kept(who).Tag
		if tag.Who != who {
			x.t.Fatalf("client %d puts with %v", who, tag)
		}
		x.put[tag] = append(x.put[tag], put)
	}
}

// ordered holds all pairs of events against each other: how many of them stand one behind the other.
func ordered(t *testing.T, l []world.Event) int {
	t.Helper()
	pairs := 0
	for _, a := range l {
		for _, b := range l {
			if b.From < a.To {
				continue
			}
			pairs++
			if hold.Less(b.Tag, a.Tag) || b.Put && b.Tag == a.Tag || a.Found && !b.Found {
				t.Fatalf("%v is behind %v", b, a)
			}
		}
	}
	return pairs
}

// meant asks that each was put with its tag, and that of one tag all have one text.
func (x watch) meant() {
	x.t.Helper()
	done := map[api.Tag]string{}
	for _, e := range x.w.Events() {
		if e.Found && !slices.Contains(x.put[e.Tag], e.Text) {
			x.t.Fatalf("%v: with its tag were put %q", e, x.put[e.Tag])
		}
		if text, there := done[e.Tag]; there && text != e.Text {
			x.t.Fatalf("%v: one of the same tag has %q", e, text)
		}
		done[e.Tag] = e.Text
		if !e.Found && (e.Put || e.Tag != (api.Tag{}) || e.Text != "") {
			x.t.Fatalf("%v found nothing", e)
		}
		if e.From < 0 || e.To <= e.From {
			x.t.Fatalf("%v ended ahead of its beginning", e)
		}
	}
}

// count of what happened in many worlds.
type count struct{ events, pairs, moves, refused, gets int }

func (c *count) add(w *world.World, pairs int) {
	_, active := w.Configs()
	c.moves += active
	c.pairs += pairs
	for _, e := range w.Events() {
		c.events++
		if !e.Put && e.Found {
			c.gets++
		}
	}
}

// many worlds of that kind, of so many steps.
func many(t *testing.T, r *rand.Rand, worlds, steps int, o func() odds) count {
	t.Helper()
	var c count
	for range worlds {
		n := 1 + r.IntN(6)
		k := 1 + r.IntN(n)
		mine := o()
		w := made(t, mine.nodes(r, n), n, k)
		x := watch{t, w, map[int]string{}, map[api.Tag][]string{}}
		for at := range steps {
			text := "t" + strconv.Itoa(at)
			x.step(mine.draw(r, n, len(w.Flying()), text), text)
			for who := range api.MaxClients {
				if w.State(who) == "refused" {
					c.refused++
				}
			}
		}
		x.meant()
		c.add(w, ordered(t, w.Events()))
	}
	return c
}

// P124: whatever is lost, doubled and turned around, whoever is down, and whoever the members are.
func TestWhatIsDoneIsInOrder(t *testing.T) {
	r := rand.New(rand.NewPCG(12, 124))
	c := many(t, r, 400, 500, func() odds {
		return odds{begin: 9, drop: r.IntN(3), twice: r.IntN(6), turn: r.IntN(3), again: 3, retry: 2, change: r.IntN(3)}
	})
	if c.events < 3000 || c.gets < 1000 || c.pairs < 15000 || c.moves < 400 || c.refused < 2000 {
		t.Errorf("%+v: of no use", c)
	}
}

// P124: where members change all the time, and nothing is lost.
func TestWhatIsDoneIsInOrderWhereMembersChange(t *testing.T) {
	r := rand.New(rand.NewPCG(12, 1240))
	c := many(t, r, 400, 500, func() odds {
		return odds{begin: 9, twice: r.IntN(4), again: 2, retry: 3, change: 4}
	})
	if c.events < 4000 || c.gets < 1500 || c.pairs < 20000 || c.moves < 2000 || c.refused < 2000 {
		t.Errorf("%+v: of no use", c)
	}
}

// P124: where no members change, and nothing is lost: many events of each world.
func TestWhatIsDoneIsInOrderWhereMembersStay(t *testing.T) {
	r := rand.New(rand.NewPCG(12, 1241))
	c := many(t, r, 150, 1500, func() odds {
		return odds{begin: 10, twice: 3, turn: r.IntN(2), again: 3}
	})
	if c.events < 5000 || c.gets < 2000 || c.pairs < 100000 {
		t.Errorf("%+v: of no use", c)
	}
}

// P124: a late keep of a Put that was done long ago, and one of a mover, change nothing that is found.
func TestLateMessages(t *testing.T) {
	w := three(t)
	begins(t, w.Put(0, "first"))
	deliver(t, w, 5)
	begins(t, w.Twice(where(t, w, to("a", "keep"))))
	begins(t, w.Twice(where(t, w, to("d", "keep"))))
	late := 0
	for w.State(0) != "idle" {
		begins(t, w.Deliver(where(t, w, func(m wire.Message) bool { return m.To != "a" && m.From != "a" })))
	}
	for _, m := range w.Flying() {
		if m.Kind == "keep" {
			late++
		}
	}
	if late < 2 {
		t.Fatalf("%v: of no use", w.Flying())
	}
	begins(t, w.Put(1, "second"))
	only(w, between("c1"))
	only(w, between("c0"))
	if e := got(t, w, 2); e.Text != "second" || e.Tag != (api.Tag{N: 2, Who: 1}) {
		t.Errorf("got %v", e)
	}
	moved(t, w, []string{"a", "b", "d"})
	if e := got(t, w, 3); e.Text != "second" {
		t.Errorf("got %v", e)
	}
}

// sent are messages from one to one, of a Kind.
func sent(from, name, kind string) func(m wire.Message) bool {
	return func(m wire.Message) bool { return m.From == from && m.To == name && m.Kind == kind }
}

// P124: a tag that was taken for one text, refused, and not carried comes again for another one: who looked for it in the old configuration, where K have its first text at last, finds the second one.
func TestATagThatComesAgain(t *testing.T) {
	nodes := []string{"a", "b", "d", "e"}
	w := made(t, nodes, 4, 2)
	m := preferred(t, nodes, 4)
	heard := func(from, name, kind string) {
		t.Helper()
		begins(t, w.Deliver(where(t, w, sent(from, name, kind))))
	}
	answered := func(who, asks, answers string, members ...string) {
		t.Helper()
		for _, member := range members {
			heard(who, member, asks)
			heard(member, who, answers)
		}
	}
	next := func(x wire.Message) bool { return x.Config == 1 }
	begins(t, w.Put(1, "never done"))
	answered("c1", "look", "told", m[:3]...)
	heard("c1", m[0], "keep")
	begins(t, w.Put(0, "first"))
	answered("c0", "look", "told", m[:3]...)
	tag := api.Tag{N: 2}
	if v := w.Flying()[where(t, w, sent("c0", m[1], "keep"))].L[0]; v.Tag != tag {
		t.Fatalf("keeps %v: of no use", v)
	}
	heard("c0", m[1], "keep")
	begins(t, w.Get(2))
	begins(t, w.Change(nodes))
	answered("mover", "seal", "sealed", m[1:]...)
	configs(t, "nothing is carried", w, 2, 1)

	heard("c0", m[0], "keep")
	answered("c2", "look", "told", m[0])
	stands(t, "two have the first text", w, 2, "looking")
	answered("c0", "keep", "kept", m[2])
	stands(t, "refused, and anew", w, 0, "looking")
	only(w, next)
	begins(t, w.Put(0, "second"))
	only(w, next)
	answered("c2", "look", "told", m[1])
	stands(t, "refused, and anew", w, 2, "looking")
	only(w, next)
	moved(t, w, nodes)
	begins(t, w.Get(3))
	only(w, between("c3"))

	e := w.Events()
	for i, want := range []world.Event{
		{Who: 0, Put: true, Tag: api.Tag{N: 1}, Text: "first"}, {Who: 0, Put: true, Tag: tag, Text: "second"},
		{Who: 2, Tag: tag, Text: "second"}, {Who: 3, Tag: tag, Text: "second"},
	} {
		if len(e) != 4 || e[i].Who != want.Who || e[i].Put != want.Put || e[i].Tag != want.Tag || e[i].Text != want.Text {
			t.Fatalf("events %v", e)
		}
	}
	ordered(t, e)
}
