package world_test

import (
	"strconv"
	"testing"

	"shardkeep/api"
	"shardkeep/wire"
	"shardkeep/world"
)

// looksAt are what a client sends first, to members of a configuration.
func looksAt(from string, members []string, op, config int) []wire.Message {
	var l []wire.Message
	for _, member := range members {
		l = append(l, wire.Message{From: from, To: member, Kind: "look", Key: "x", Op: op, Config: config})
	}
	return l
}

// refusedAhead has client 0 refused, by d, while the mover is not done: there fly what d, b and a answered the mover, and looks to b and a. Four were delivered ahead of its beginning, and two behind it.
func refusedAhead(t *testing.T, next []string, begin func(w *world.World) error) *world.World {
	t.Helper()
	w := three(t)
	begins(t, w.Get(5))
	begins(t, w.Drop(0))
	begins(t, w.Drop(0))
	begins(t, w.Deliver(0))
	begins(t, w.Drop(0))
	begins(t, w.Change(next))
	deliver(t, w, 3)
	begins(t, begin(w))
	begins(t, w.Deliver(3))
	stands(t, "not yet", w, 0, "looking")
	begins(t, w.Deliver(5))
	stands(t, "ahead", w, 0, "refused")
	configs(t, "ahead", w, 2, 0)
	return w
}

func put(w *world.World) error { return w.Put(0, "object") }

func get(w *world.World) error { return w.Get(0) }

// P122: it stays refused, whatever comes to it, until there is one behind its own; Retry tells ErrOld, and changes nothing.
func TestRefusedAheadOfTheNextOne(t *testing.T) {
	w := refusedAhead(t, []string{"a", "b", "d"}, put)
	old := func() {
		t.Helper()
		stands(t, "ahead", w, 0, "refused")
		fails(t, "Retry", w, api.ErrOld, func() error { return w.Retry(0) })
		fails(t, "Again", w, api.ErrNone, func() error { return w.Again(0) })
		held(t, "refused", w, 0)
	}
	old()
	only(w, func(m wire.Message) bool { return m.Kind == "look" })
	only(w, func(m wire.Message) bool { return m.To == "c0" })
	old()
	begins(t, w.Deliver(0))
	old()
	begins(t, w.Deliver(0))
	configs(t, "moved", w, 2, 1)
	stands(t, "nothing has come to it", w, 0, "refused")
	held(t, "refused", w, 0)
	fails(t, "Again", w, api.ErrNone, func() error { return w.Again(0) })
	begins(t, w.Drop(0))
	begins(t, w.Retry(0))
	showsAs(t, "anew", w, shown{flying: looksAt("c0", []string{"d", "b", "a"}, 3, 1), states: states(map[int]string{0: "looking", 5: "looking"}), all: 2, active: 1})
	fails(t, "Retry again", w, api.ErrNone, func() error { return w.Retry(0) })
	all(w)
	// Four ahead of its beginning; then two, four of b and a, two of the mover, and a Put.
	happened(t, w, world.Event{Who: 0, Put: true, Found: true, Tag: api.Tag{N: 1}, Text: "object", From: 4, To: 4 + 2 + 4 + 2 + doneAt(3, 1)})
}

// P122: what comes to it when there is one behind its own has it begin anew, though it is an answer to what it asked earlier.
func TestRefusedAndThenAnythingComes(t *testing.T) {
	for i, begin := range []func(w *world.World) error{put, get} {
		w := refusedAhead(t, []string{"e", "f", "g"}, begin)
		members := preferred(t, []string{"e", "f", "g"}, 3)
		deliver(t, w, 2)
		configs(t, "moved", w, 2, 1)
		stands(t, "nothing has come to it", w, 0, "refused")
		begins(t, w.Drop(0))
		begins(t, w.Deliver(0))
		stands(t, "a look to b", w, 0, "refused")
		begins(t, w.Deliver(1))
		showsAs(t, "anew", w, shown{
			flying: append(looksAt("c0", []string{"a"}, 2, 0), looksAt("c0", members, 3, 1)...),
			states: states(map[int]string{0: "looking", 5: "looking"}), all: 2, active: 1,
		})
		begins(t, w.Deliver(0))
		begins(t, w.Deliver(3))
		stands(t, "what a told of the old one", w, 0, "looking")
		all(w)
		want := world.Event{From: 4, To: 4 + 2 + 2 + 2 + 2 + 3 + 2}
		if i == 0 {
			want = world.Event{Put: true, Found: true, Tag: api.Tag{N: 1}, Text: "object", From: 4, To: 4 + 2 + 2 + 2 + 2 + doneAt(3, 1)}
		}
		happened(t, w, want)
	}
}

// P122: also what comes of an earlier Op, of what it was done with long ago.
func TestRefusedAndThenAnEarlierAnswerComes(t *testing.T) {
	w := three(t)
	begins(t, w.Get(0))
	deliver(t, w, 5)
	stands(t, "done", w, 0, "idle")
	begins(t, w.Twice(0))
	early := func(m wire.Message) bool { return m.To == "c0" && m.Op == 0 }
	own := func(m wire.Message) bool { return m.Op == 1 && m.From != "c0" || m.To == "d" && m.Op == 1 }
	begins(t, w.Put(0, "object"))
	begins(t, w.Change([]string{"a", "b", "d"}))
	only(w, to("d", "seal"))
	only(w, own)
	stands(t, "refused", w, 0, "refused")
	begins(t, w.Deliver(where(t, w, early)))
	stands(t, "none is behind its own", w, 0, "refused")
	only(w, between("mover"))
	configs(t, "moved", w, 2, 1)
	stands(t, "nothing has come to it", w, 0, "refused")
	begins(t, w.Deliver(where(t, w, early)))
	stands(t, "anew", w, 0, "looking")
	flies(t, "anew", w, append(looks("c0", 1)[1:], looksAt("c0", []string{"d", "b", "a"}, 3, 1)...))
}

// P122: where there is one behind its own when it hears of it, it begins anew by that, at once: with a new Op, behind all others.
func TestRefusedBehindTheNextOne(t *testing.T) {
	for _, begin := range []func(w *world.World) error{put, get} {
		w := three(t)
		begins(t, begin(w))
		moved(t, w, []string{"e", "f", "g"})
		members := preferred(t, []string{"e", "f", "g"}, 3)
		deliver(t, w, 3)
		stands(t, "not yet", w, 0, "looking")
		tolds := w.Flying()
		begins(t, w.Deliver(1))
		stands(t, "anew", w, 0, "looking")
		flies(t, "anew", w, append([]wire.Message{tolds[0], tolds[2]}, looksAt("c0", members, 2, 1)...))
		if !tolds[1].Sealed {
			t.Fatalf("%v: of no use", tolds[1])
		}
		deliver(t, w, 2)
		stands(t, "answers of the old one", w, 0, "looking")
		flies(t, "answers of the old one", w, looksAt("c0", members, 2, 1))
		fails(t, "Retry", w, api.ErrNone, func() error { return w.Retry(0) })
		begins(t, w.Again(0))
		flies(t, "Again", w, append(looksAt("c0", members, 2, 1), looksAt("c0", members, 2, 1)...))
		all(w)
		if e := w.Events(); len(e) != 1 || e[0].From != 0 || e[0].Put != e[0].Found {
			t.Errorf("events %v", e)
		}
	}
}

// P122: refused while it is keeping; what it put in the old one counts, if it was carried: the tag that it is done with is behind that.
func TestRefusedWhileItKeeps(t *testing.T) {
	w := three(t)
	begins(t, w.Put(0, "object"))
	deliver(t, w, 5)
	stands(t, "two told", w, 0, "keeping")
	begins(t, w.Deliver(where(t, w, to("d", "keep"))))
	moved(t, w, []string{"a", "b", "d"})
	begins(t, w.Get(1))
	only(w, between("c1"))
	begins(t, w.Deliver(where(t, w, to("b", "keep"))))
	begins(t, w.Deliver(where(t, w, to("c0", "kept"))))
	stands(t, "d has kept", w, 0, "keeping")
	begins(t, w.Deliver(where(t, w, func(m wire.Message) bool { return m.To == "c0" && m.Sealed })))
	stands(t, "b has not", w, 0, "looking")
	all(w)
	e := w.Events()
	if len(e) != 2 || e[0].Who != 1 || e[0].Tag != (api.Tag{N: 1}) || e[0].Text != "object" {
		t.Fatalf("events %v", e)
	}
	if e[1].Who != 0 || !e[1].Put || e[1].Tag != (api.Tag{N: 2}) || e[1].Text != "object" || e[1].From != 0 {
		t.Errorf("events %v", e)
	}
}

// P122: it may be refused again and again: each time it begins anew with a new Op, and From stays what it was first.
func TestRefusedAgainAndAgain(t *testing.T) {
	w := three(t)
	begins(t, w.Get(1))
	from := all(w)
	begins(t, w.Put(0, "object"))
	delivers := from
	for i := range api.MaxConfigs - 1 {
		begins(t, w.Change([]string{"a", "b", "d"}))
		delivers += only(w, between("mover"))
		begins(t, w.Deliver(where(t, w, func(m wire.Message) bool { return m.Kind == "look" && m.Config == i })))
		begins(t, w.Deliver(where(t, w, to("c0", "told"))))
		delivers += 2
		var anew []wire.Message
		for _, m := range w.Flying() {
			if m.Config == i+1 {
				anew = append(anew, m)
			}
		}
		// Ahead of it: a Get, the first beginning, and of each change the mover and a beginning, but this one.
		want := looksAt("c0", []string{"d", "b", "a"}, 1+1+2*i+1, i+1)
		if len(anew) != 3 || !same(anew[0], want[0]) || !same(anew[2], want[2]) {
			t.Fatalf("anew %v, want %v", anew, want)
		}
	}
	for len(w.Flying()) > 3 {
		begins(t, w.Drop(0))
	}
	all(w)
	if e := w.Events(); len(e) != 2 || e[1] != (world.Event{Who: 0, Put: true, Found: true, Tag: api.Tag{N: 1}, Text: "object", From: from, To: delivers + doneAt(3, 1)}) {
		t.Errorf("events %v", e)
	}
}

// P122: the newest one that is active is asked then, though several are behind its own; not one that is still to come.
func TestRefusedAndSeveralAreBehind(t *testing.T) {
	for _, way := range []string{"Retry", "an answer"} {
		w := refusedAhead(t, []string{"a", "b", "d"}, put)
		only(w, between("mover"))
		moved(t, w, []string{"e", "f", "g"})
		moved(t, w, []string{"a", "e", "g"})
		begins(t, w.Change([]string{"b", "d", "f"}))
		configs(t, "one is still to come", w, 5, 3)
		if way == "Retry" {
			begins(t, w.Retry(0))
		} else {
			begins(t, w.Deliver(0))
			begins(t, w.Deliver(where(t, w, to("c0", "told"))))
		}
		l := w.Flying()
		want := looksAt("c0", preferred(t, []string{"a", "e", "g"}, 3), 6, 3)
		for i, m := range l[len(l)-3:] {
			if !same(m, want[i]) {
				t.Errorf("%s: sent %v, want %v", way, m, want[i])
			}
		}
	}
}

// P122: Retry in each State but refused, of each client.
func TestRetryOfWhoIsNotRefused(t *testing.T) {
	for who := range api.MaxClients {
		w := three(t)
		none := func(name string) {
			t.Helper()
			fails(t, name+" "+strconv.Itoa(who), w, api.ErrNone, func() error { return w.Retry(who) })
		}
		none("idle at first")
		moved(t, w, []string{"a", "b", "d"})
		none("idle, and one is behind")
		begins(t, w.Put(who, "object"))
		none("looking")
		moved(t, w, []string{"e", "f", "g"})
		none("looking, and one is behind")
		all(w)
		none("done")
		begins(t, w.Put(who, "object"))
		deliver(t, w, 5)
		stands(t, "two told", w, who, "keeping")
		none("keeping")
		moved(t, w, []string{"a", "b", "d"})
		none("keeping, and one is behind")
	}
}

// P122: others go on, whoever is refused.
func TestOthersGoOn(t *testing.T) {
	w := refusedAhead(t, []string{"e", "f", "g"}, put)
	only(w, between("mover"))
	begins(t, w.Put(1, "other"))
	only(w, between("c1"))
	stands(t, "refused", w, 0, "refused")
	if e := w.Events(); len(e) != 1 || e[0].Who != 1 || e[0].Tag != (api.Tag{N: 1, Who: 1}) {
		t.Fatalf("events %v", e)
	}
	begins(t, w.Retry(0))
	all(w)
	if e := w.Events(); len(e) != 2 || e[1].Who != 0 || e[1].Tag != (api.Tag{N: 2}) || e[1].From != 4 {
		t.Errorf("events %v", e)
	}
}

// P120, P122: what a client sends anew is lost beyond MaxFlying: it looks all the same, and Again helps.
func TestAnewWhereThereIsNoRoom(t *testing.T) {
	w := refusedAhead(t, []string{"e", "f", "g"}, put)
	deliver(t, w, 2)
	configs(t, "moved", w, 2, 1)
	begins(t, w.Get(1))
	for len(w.Flying()) < api.MaxFlying {
		begins(t, w.Again(1))
	}
	was := w.Flying()
	begins(t, w.Retry(0))
	stands(t, "anew", w, 0, "looking")
	flies(t, "no room", w, was)
	for range 3 {
		begins(t, w.Drop(api.MaxFlying-3))
	}
	begins(t, w.Again(0))
	flies(t, "Again", w, append(was[:api.MaxFlying-3], looksAt("c0", preferred(t, []string{"e", "f", "g"}, 3), 4, 1)...))
}
