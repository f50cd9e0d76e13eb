package world_test

import (
	"slices"
	"testing"

	"shardkeep/api"
	"shardkeep/wire"
	"shardkeep/world"
)

// P123: From and To count Delivers that had no error, the last one too; to a node that is down, and what is passed over, they are Delivers; nothing else is.
func TestFromAndTo(t *testing.T) {
	w := made(t, []string{"a"}, 1, 1)
	nothingCounts := func() {
		t.Helper()
		told(t, "Deliver", w.Deliver(-1), api.ErrNone, -1)
		told(t, "Deliver", w.Deliver(len(w.Flying())), api.ErrNone, -1)
		begins(t, w.Get(5))
		begins(t, w.Again(5))
		begins(t, w.Twice(len(w.Flying())-1))
		for range 3 {
			begins(t, w.Drop(len(w.Flying())-1))
		}
	}
	told(t, "Deliver", w.Deliver(0), api.ErrNone, -1)
	begins(t, w.Put(0, "first"))
	nothingCounts()
	begins(t, w.Again(0))
	begins(t, w.Down("a"))
	deliver(t, w, 1)
	begins(t, w.Up("a"))
	deliver(t, w, 1)
	begins(t, w.Twice(0))
	deliver(t, w, 3)
	happened(t, w)
	deliver(t, w, 1)
	want := []world.Event{{Put: true, Found: true, Tag: api.Tag{N: 1}, Text: "first", From: 0, To: 6}}
	happened(t, w, want...)
	begins(t, w.Get(3))
	told(t, "Deliver", w.Deliver(1), api.ErrNone, -1)
	deliver(t, w, 4)
	happened(t, w, append(want, world.Event{Who: 3, Found: true, Tag: api.Tag{N: 1}, Text: "first", From: 6, To: 10})...)
}

// P123: as they were done, not as they began; State and Events behind each Deliver.
func TestEventsStandAsTheyWereDone(t *testing.T) {
	w := three(t)
	begins(t, w.Put(0, "slow"))
	begins(t, w.Get(2))
	begins(t, w.Put(1, "fast"))
	count := 0
	for w.State(1) != "idle" {
		begins(t, w.Deliver(where(t, w, between("c1"))))
		count++
	}
	fast := world.Event{Who: 1, Put: true, Found: true, Tag: api.Tag{N: 1, Who: 1}, Text: "fast", To: count}
	happened(t, w, fast)
	for w.State(2) != "idle" {
		begins(t, w.Deliver(where(t, w, between("c2"))))
		count++
	}
	read := world.Event{Who: 2, Found: true, Tag: fast.Tag, Text: "fast", To: count}
	happened(t, w, fast, read)
	for w.State(0) != "idle" {
		begins(t, w.Deliver(where(t, w, between("c0"))))
		count++
	}
	happened(t, w, fast, read, world.Event{Put: true, Found: true, Tag: api.Tag{N: 2}, Text: "slow", To: count})
}

// P123: as ask's Answer: a Get that found nothing, one that found an object of no bytes, a Put of no bytes.
func TestEventsOfNothing(t *testing.T) {
	w := made(t, []string{"a"}, 1, 1)
	begins(t, w.Get(4))
	all(w)
	begins(t, w.Put(3, ""))
	all(w)
	begins(t, w.Get(4))
	all(w)
	happened(t, w, world.Event{Who: 4, To: 2},
		world.Event{Who: 3, Put: true, Found: true, Tag: api.Tag{N: 1, Who: 3}, From: 2, To: 6},
		world.Event{Who: 4, Found: true, Tag: api.Tag{N: 1, Who: 3}, From: 6, To: 10})
}

// P123: `idle`, `looking`, `keeping`, `refused`, and `idle` again; the mover is no event, and no client's State.
func TestEachState(t *testing.T) {
	w := three(t)
	stands(t, "at first", w, 0, "idle")
	begins(t, w.Put(0, "object"))
	stands(t, "begun", w, 0, "looking")
	deliver(t, w, 4)
	stands(t, "one told", w, 0, "looking")
	deliver(t, w, 1)
	stands(t, "two told", w, 0, "keeping")
	begins(t, w.Change([]string{"a", "b", "d"}))
	only(w, func(m wire.Message) bool { return m.Kind == "seal" })
	begins(t, w.Deliver(where(t, w, to("b", "keep"))))
	stands(t, "it flies", w, 0, "keeping")
	begins(t, w.Deliver(where(t, w, to("c0", "kept"))))
	stands(t, "it is sealed", w, 0, "refused")
	only(w, between("mover"))
	begins(t, w.Retry(0))
	stands(t, "anew", w, 0, "looking")
	happened(t, w)
	all(w)
	stands(t, "done", w, 0, "idle")
	if len(w.Events()) != 1 {
		t.Errorf("events %v", w.Events())
	}
	for who := 1; who < api.MaxClients; who++ {
		stands(t, "another one", w, who, "idle")
	}
}

// P123: tags of clients by turns: the next N, and who it is; what each Get found is the last of them.
func TestTagsByTurns(t *testing.T) {
	w := made(t, named(6), 5, 3)
	var want []world.Event
	at := 0
	for i := range 20 {
		text := "object " + string(rune('a'+i))
		tag := api.Tag{N: i + 1, Who: i % api.MaxClients}
		begins(t, w.Put(tag.Who, text))
		all(w)
		begins(t, w.Get((i+1)%api.MaxClients))
		all(w)
		// What is left of the kept is delivered ahead of the next one.
		took := 4 * 5
		want = append(want, world.Event{Who: tag.Who, Put: true, Found: true, Tag: tag, Text: text, From: at, To: at + doneAt(5, 3)},
			world.Event{Who: (i + 1) % api.MaxClients, Found: true, Tag: tag, Text: text, From: at + took, To: at + took + doneAt(5, 3)})
		at += 2 * took
		happened(t, w, want...)
	}
}

// P123: Flying has all fields of each message, with what members told: rising, by all that a member has.
func TestFlyingHasVersions(t *testing.T) {
	w := made(t, []string{"a"}, 1, 1)
	var want []api.Version
	for i, text := range []string{"first", "", "third"} {
		begins(t, w.Put(i, text))
		all(w)
		want = append(want, api.Version{Tag: api.Tag{N: i + 1, Who: i}, Size: len(text), S: api.Shard{Text: text}})
	}
	begins(t, w.Get(5))
	deliver(t, w, 1)
	flies(t, "told", w, []wire.Message{{From: "a", To: "c5", Kind: "told", Key: "x", Op: 3, L: want}})
	deliver(t, w, 1)
	flies(t, "keep", w, []wire.Message{{From: "c5", To: "a", Kind: "keep", Key: "x", Op: 3, L: want[2:]}})
}

// P121: a member that holds MaxHeld versions keeps no more: who puts waits, who gets is served.
func TestMembersThatAreFull(t *testing.T) {
	w := made(t, []string{"a"}, 1, 1)
	for i := range api.MaxHeld {
		begins(t, w.Put(i%api.MaxClients, "object"))
		all(w)
	}
	begins(t, w.Put(0, "one more"))
	all(w)
	stands(t, "full", w, 0, "keeping")
	if e := got(t, w, 1); e.Tag.N != api.MaxHeld {
		t.Errorf("got %v", e)
	}
	moved(t, w, []string{"a"})
	begins(t, w.Put(1, "behind the change"))
	all(w)
	e := w.Events()
	if x := e[len(e)-1]; x.Tag != (api.Tag{N: api.MaxHeld + 1, Who: 1}) || x.Text != "behind the change" {
		t.Errorf("done %v", x)
	}
	if !slices.IsSortedFunc(e, func(a, b world.Event) int { return a.To - b.To }) {
		t.Error("events do not stand as they were done")
	}
}
