package world_test

import (
	"math"
	"strconv"
	"strings"
	"testing"

	"shardkeep/api"
	"shardkeep/wire"
	"shardkeep/world"
)

// three has a world whose members are d, b, a: two of them are enough, and each has a whole object.
func three(t *testing.T) *world.World {
	t.Helper()
	return made(t, []string{"a", "b", "d"}, 3, 1)
}

// looks are what a client sends first, to members of three.
func looks(from string, op int) []wire.Message {
	var l []wire.Message
	for _, member := range []string{"d", "b", "a"} {
		l = append(l, wire.Message{From: from, To: member, Kind: "look", Key: "x", Op: op})
	}
	return l
}

// strangers are clients that are none.
func strangers() []int {
	return []int{math.MinInt, -api.MaxClients, -1, api.MaxClients, 7, math.MaxInt}
}

// P121
func TestWhoIsNone(t *testing.T) {
	w := three(t)
	begins(t, w.Put(0, "first"))
	for _, who := range strangers() {
		fails(t, "Put "+strconv.Itoa(who), w, api.ErrBound, func() error { return w.Put(who, "x") })
		fails(t, "Get "+strconv.Itoa(who), w, api.ErrBound, func() error { return w.Get(who) })
		fails(t, "Again "+strconv.Itoa(who), w, api.ErrBound, func() error { return w.Again(who) })
		fails(t, "Retry "+strconv.Itoa(who), w, api.ErrBound, func() error { return w.Retry(who) })
		stands(t, "State", w, who, "idle")
	}
	begins(t, w.Get(1))
	flies(t, "no Op went", w, append(looks("c0", 0), looks("c1", 1)...))
}

// P121: each client, from the first to the last, by its own name; Op counts all of them.
func TestEachClientBegins(t *testing.T) {
	w := three(t)
	var want []wire.Message
	now := map[int]string{}
	for i, who := range []int{api.MaxClients - 1, 0, 3, 1, 4, 2} {
		if i%2 == 0 {
			begins(t, w.Put(who, "object"))
		} else {
			begins(t, w.Get(who))
		}
		want = append(want, looks("c"+strconv.Itoa(who), i)...)
		now[who] = "looking"
		showsAs(t, "begun", w, shown{flying: want, states: states(now), all: 1})
	}
}

// P121: a text of MaxText bytes goes over whole; one more is refused, also where the client has not ended.
func TestLongTexts(t *testing.T) {
	most := strings.Repeat("\x00\xffobject", api.MaxText)[:api.MaxText]
	for _, text := range []string{"", "a", most[1:], most} {
		w := made(t, named(5), 5, 3)
		begins(t, w.Put(2, text))
		all(w)
		begins(t, w.Get(3))
		at := all(w)
		tag := api.Tag{N: 1, Who: 2}
		happened(t, w, world.Event{Who: 2, Put: true, Found: true, Tag: tag, Text: text, To: doneAt(5, 3)},
			world.Event{Who: 3, Found: true, Tag: tag, Text: text, From: at, To: at + doneAt(5, 3)})
	}
	w := three(t)
	for _, text := range []string{most + "x", most + most, strings.Repeat("x", 1<<20)} {
		fails(t, "too long", w, api.ErrBound, func() error { return w.Put(0, text) })
	}
	begins(t, w.Put(0, most))
	fails(t, "too long, and it has not ended", w, api.ErrBound, func() error { return w.Put(0, most+"x") })
	fails(t, "too long, of none", w, api.ErrBound, func() error { return w.Put(-1, most+"x") })
	flies(t, "no Op went", w, looks("c0", 0))
}

// held asks that a client has not ended.
func held(t *testing.T, name string, w *world.World, who int) {
	t.Helper()
	fails(t, name+": Put", w, api.ErrHeld, func() error { return w.Put(who, "other") })
	fails(t, name+": Get", w, api.ErrHeld, func() error { return w.Get(who) })
}

// P121: while it is looking and keeping it has not ended; when done it has, and it may begin again. What it began with stays.
func TestAClientThatHasNotEnded(t *testing.T) {
	for _, put := range []bool{true, false} {
		w := three(t)
		begins(t, w.Put(1, "ahead"))
		from := all(w)
		if put {
			begins(t, w.Put(0, "own"))
		} else {
			begins(t, w.Get(0))
		}
		for range doneAt(3, 1) {
			held(t, "not ended", w, 0)
			deliver(t, w, 1)
		}
		stands(t, "ended", w, 0, "idle")
		want := world.Event{Who: 0, Found: true, Tag: api.Tag{N: 1, Who: 1}, Text: "ahead", From: from, To: from + doneAt(3, 1)}
		if put {
			want = world.Event{Who: 0, Put: true, Found: true, Tag: api.Tag{N: 2}, Text: "own", From: from, To: from + doneAt(3, 1)}
		}
		if e := w.Events(); len(e) != 2 || e[1] != want {
			t.Errorf("events %v, want %v", e, want)
		}
		begins(t, w.Get(0))
		stands(t, "begun again", w, 0, "looking")
	}
}

// P121: one client's not having ended is nothing to another one.
func TestOthersMayBegin(t *testing.T) {
	w := three(t)
	for who := range api.MaxClients {
		begins(t, w.Put(who, "t"+strconv.Itoa(who)))
		held(t, "itself", w, who)
	}
	all(w)
	if e := w.Events(); len(e) != api.MaxClients {
		t.Errorf("events %v", e)
	}
	for who := range api.MaxClients {
		stands(t, "ended", w, who, "idle")
	}
}

// P121: Begin is sent again, just so, while it is looking; in no other State.
func TestAgain(t *testing.T) {
	w := three(t)
	fails(t, "idle at first", w, api.ErrNone, func() error { return w.Again(2) })
	begins(t, w.Put(2, "object"))
	want := looks("c2", 0)
	begins(t, w.Again(2))
	want = append(want, looks("c2", 0)...)
	flies(t, "again", w, want)
	fails(t, "another client", w, api.ErrNone, func() error { return w.Again(1) })
	deliver(t, w, 6)
	stands(t, "all have answered twice", w, 2, "looking")
	tolds := w.Flying()
	begins(t, w.Again(2))
	flies(t, "behind all others", w, append(tolds, looks("c2", 0)...))
	deliver(t, w, 2)
	stands(t, "two told", w, 2, "keeping")
	fails(t, "keeping", w, api.ErrNone, func() error { return w.Again(2) })
	all(w)
	stands(t, "done", w, 2, "idle")
	fails(t, "done", w, api.ErrNone, func() error { return w.Again(2) })
	begins(t, w.Get(2))
	flies(t, "no Op went", w, looks("c2", 1))
}

// P121: what was lost comes again by Again, and by it alone.
func TestWhatWasLostComesAgain(t *testing.T) {
	w := made(t, named(5), 5, 3)
	begins(t, w.Put(0, "object"))
	for range 5 {
		begins(t, w.Drop(0))
	}
	stands(t, "all is lost", w, 0, "looking")
	begins(t, w.Again(0))
	begins(t, w.Drop(4))
	all(w)
	happened(t, w, world.Event{Put: true, Found: true, Tag: api.Tag{N: 1}, Text: "object", To: 4 + 4 + 5 + 4})
}

// P121: what began in an active configuration asks its members, behind a change, too; Config is its number.
func TestTheNewestActiveOneIsAsked(t *testing.T) {
	w := three(t)
	begins(t, w.Change([]string{"e", "f", "g"}))
	begins(t, w.Get(0))
	if l := w.Flying()[3:]; len(l) != 3 || l[0].To != "d" || l[0].Config != 0 || l[0].Op != 1 {
		t.Errorf("while the mover moves: %v", l)
	}
	only(w, between("mover"))
	configs(t, "moved", w, 2, 1)
	begins(t, w.Get(1))
	var want []wire.Message
	for _, member := range preferred(t, []string{"e", "f", "g"}, 3) {
		want = append(want, wire.Message{From: "c1", To: member, Kind: "look", Key: "x", Op: 2, Config: 1})
	}
	flies(t, "behind the move", w, append(w.Flying()[:3], want...))
}
