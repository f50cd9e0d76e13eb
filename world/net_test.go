package world_test

import (
	"math"
	"slices"
	"strconv"
	"testing"

	"shardkeep/api"
	"shardkeep/wire"
	"shardkeep/world"
)

// outside are places where no message is, of so many.
func outside(count int) []int {
	return []int{math.MinInt, -count - 1, -count, -1, count, count + 1, api.MaxFlying, math.MaxInt}
}

// noMessage asks that there is none at those places.
func noMessage(t *testing.T, w *world.World) {
	t.Helper()
	for _, at := range outside(len(w.Flying())) {
		if at >= 0 && at < len(w.Flying()) {
			continue
		}
		fails(t, "Deliver "+strconv.Itoa(at), w, api.ErrNone, func() error { return w.Deliver(at) })
		fails(t, "Drop "+strconv.Itoa(at), w, api.ErrNone, func() error { return w.Drop(at) })
		fails(t, "Twice "+strconv.Itoa(at), w, api.ErrNone, func() error { return w.Twice(at) })
	}
}

// P121: where nothing flies, and where something does, below the first and behind the last; where all is full, too.
func TestNoSuchMessage(t *testing.T) {
	w := three(t)
	noMessage(t, w)
	begins(t, w.Get(0))
	noMessage(t, w)
	for len(w.Flying()) < api.MaxFlying {
		begins(t, w.Again(0))
	}
	noMessage(t, w)
	for range api.MaxFlying {
		begins(t, w.Drop(0))
	}
	noMessage(t, w)
}

// P121: the one at its place goes, the others stay in order, and the answer is behind them.
func TestDeliverAnyOfThem(t *testing.T) {
	for at := range 6 {
		w := three(t)
		begins(t, w.Get(0))
		begins(t, w.Put(1, "object"))
		want := append(looks("c0", 0), looks("c1", 1)...)
		m := want[at]
		begins(t, w.Deliver(at))
		want = append(slices.Delete(want, at, at+1), wire.Message{From: m.To, To: m.From, Kind: "told", Key: "x", Op: m.Op})
		flies(t, "delivered", w, want)
	}
}

// P121: a client's answer to the last that it waits for is behind all others, too: to each member its shard.
func TestWhatAClientSendsIsBehindAllOthers(t *testing.T) {
	w := made(t, []string{"a", "b", "d"}, 3, 2)
	begins(t, w.Put(4, "abcd"))
	deliver(t, w, 3)
	begins(t, w.Get(1))
	begins(t, w.Deliver(2))
	begins(t, w.Deliver(1))
	stands(t, "two of three", w, 4, "looking")
	begins(t, w.Deliver(0))
	want := looks("c1", 1)
	for i, text := range []string{"ab", "cd", "en"} {
		v := api.Version{Tag: api.Tag{N: 1, Who: 4}, Size: 4, S: api.Shard{At: i, Text: text}}
		want = append(want, wire.Message{From: "c4", To: want[i].To, Kind: "keep", Key: "x", L: []api.Version{v}})
	}
	showsAs(t, "kept", w, shown{flying: want, states: states(map[int]string{4: "keeping", 1: "looking"}), all: 1})
}

// P121: what is dropped is heard by nobody, and no Deliver.
func TestDrop(t *testing.T) {
	for at := range 3 {
		w := three(t)
		begins(t, w.Get(0))
		begins(t, w.Drop(at))
		want := slices.Delete(looks("c0", 0), at, at+1)
		showsAs(t, "dropped", w, shown{flying: want, states: states(map[int]string{0: "looking"}), all: 1})
		all(w)
		happened(t, w, world.Event{To: 4})
	}
}

// P121: right behind itself, whole, with what it brings.
func TestTwice(t *testing.T) {
	for at := range 3 {
		w := three(t)
		begins(t, w.Get(0))
		begins(t, w.Twice(at))
		want := looks("c0", 0)
		want = slices.Insert(want, at+1, want[at])
		showsAs(t, "twice", w, shown{flying: want, states: states(map[int]string{0: "looking"}), all: 1})
		begins(t, w.Twice(at+1))
		flies(t, "thrice", w, slices.Insert(want, at+1, want[at]))
	}
	w := three(t)
	begins(t, w.Put(0, "object"))
	all(w)
	begins(t, w.Get(1))
	deliver(t, w, 3)
	want := w.Flying()
	if len(want) != 3 || want[2].Kind != "told" || len(want[2].L) != 1 || want[2].L[0].S.Text != "object" {
		t.Fatalf("flies %v: of no use", want)
	}
	begins(t, w.Twice(2))
	flies(t, "twice, with versions", w, append(want, want[2]))
}

// P121: one that answers twice has answered once.
func TestAnAnswerTwice(t *testing.T) {
	w := three(t)
	begins(t, w.Get(0))
	begins(t, w.Deliver(2))
	begins(t, w.Twice(2))
	begins(t, w.Twice(2))
	begins(t, w.Drop(0))
	begins(t, w.Drop(0))
	all(w)
	stands(t, "one has answered", w, 0, "looking")
	happened(t, w)
}

// P121: ErrFull where MaxFlying fly; with one fewer there is room for one.
func TestTwiceWhereThereIsNoRoom(t *testing.T) {
	w := made(t, named(7), 7, 1)
	begins(t, w.Get(0))
	for len(w.Flying()) < api.MaxFlying-1 {
		begins(t, w.Again(0))
	}
	if len(w.Flying()) != api.MaxFlying-1 {
		t.Fatalf("%d fly: of no use", len(w.Flying()))
	}
	last := w.Flying()[api.MaxFlying-2]
	begins(t, w.Twice(api.MaxFlying-2))
	if l := w.Flying(); len(l) != api.MaxFlying || !same(l[api.MaxFlying-1], last) {
		t.Fatalf("%d fly", len(l))
	}
	for at := range api.MaxFlying {
		fails(t, "no room", w, api.ErrFull, func() error { return w.Twice(at) })
	}
	for _, at := range outside(api.MaxFlying) {
		fails(t, "no room, and no message", w, api.ErrNone, func() error { return w.Twice(at) })
	}
	begins(t, w.Drop(60))
	begins(t, w.Twice(0))
	fails(t, "no room again", w, api.ErrFull, func() error { return w.Twice(0) })
}

// P121: of names that are no nodes of the world, be they a client's, the mover's, or free.
func TestNoSuchNode(t *testing.T) {
	w := three(t)
	for _, name := range []string{"", "q", "A", "c", "c0", "mover", "aa", "a ", "a\x00", "x", string(make([]byte, 1<<12))} {
		for range 2 {
			fails(t, "Down "+name, w, api.ErrNone, func() error { return w.Down(name) })
			fails(t, "Up "+name, w, api.ErrNone, func() error { return w.Up(name) })
		}
	}
	begins(t, w.Put(0, "object"))
	all(w)
	if len(w.Events()) != 1 {
		t.Error("a node is down")
	}
}

// P121: a node that is down hears nothing: its message is gone, and it was a Deliver. Down and up twice are as once.
func TestANodeThatIsDown(t *testing.T) {
	for times := 1; times <= 3; times++ {
		w := three(t)
		begins(t, w.Get(0))
		for range times {
			begins(t, w.Down("d"))
		}
		begins(t, w.Deliver(0))
		flies(t, "down", w, looks("c0", 0)[1:])
		for range times {
			begins(t, w.Up("d"))
		}
		begins(t, w.Again(0))
		begins(t, w.Deliver(2))
		want := append(looks("c0", 0)[1:], looks("c0", 0)[1:]...)
		flies(t, "up", w, append(want, wire.Message{From: "d", To: "c0", Kind: "told", Key: "x"}))
		all(w)
		happened(t, w, world.Event{To: 1 + 1 + 4 + 2})
	}
}

// P121: just who is down is down; who is up stays up.
func TestJustThatNodeIsDown(t *testing.T) {
	for i, node := range []string{"d", "b", "a"} {
		w := three(t)
		begins(t, w.Up(node))
		begins(t, w.Down(node))
		begins(t, w.Get(0))
		deliver(t, w, 3)
		var want []wire.Message
		for _, m := range slices.Delete(looks("c0", 0), i, i+1) {
			want = append(want, wire.Message{From: m.To, To: "c0", Kind: "told", Key: "x"})
		}
		flies(t, "but one", w, want)
	}
}

// P121: who was down has what it had; what was on its way to it is heard when it is up, and what was on its way from it is heard when it is down.
func TestDownAndUpAgain(t *testing.T) {
	w := made(t, []string{"a"}, 1, 1)
	begins(t, w.Put(0, "object"))
	begins(t, w.Down("a"))
	begins(t, w.Up("a"))
	deliver(t, w, 2)
	begins(t, w.Down("a"))
	begins(t, w.Get(1))
	begins(t, w.Up("a"))
	deliver(t, w, 1)
	begins(t, w.Down("a"))
	begins(t, w.Deliver(1))
	happened(t, w, world.Event{Put: true, Found: true, Tag: api.Tag{N: 1}, Text: "object", To: 4})
	begins(t, w.Deliver(0))
	stands(t, "it is down", w, 1, "looking")
	begins(t, w.Up("a"))
	begins(t, w.Again(1))
	all(w)
	if e := w.Events(); len(e) != 2 || e[1] != (world.Event{Who: 1, Found: true, Tag: api.Tag{N: 1}, Text: "object", From: 2, To: 9}) {
		t.Errorf("events %v", e)
	}
}

// P121: with as many up as are enough it is done; with one fewer it is not.
func TestEnoughAreUp(t *testing.T) {
	for n := 1; n <= api.MaxShards; n++ {
		for k := 1; k <= n; k++ {
			w := made(t, named(n), n, k)
			for _, node := range named(n)[enoughOf(n, k)-1:] {
				begins(t, w.Down(node))
			}
			begins(t, w.Put(0, "object"))
			all(w)
			stands(t, "too few", w, 0, "looking")
			begins(t, w.Up(named(n)[enoughOf(n, k)-1]))
			begins(t, w.Again(0))
			all(w)
			stands(t, "enough", w, 0, "idle")
		}
	}
}
