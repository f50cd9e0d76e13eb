package world_test

import (
	"slices"
	"strconv"
	"strings"
	"testing"

	"shardkeep/api"
	"shardkeep/coder"
	"shardkeep/wire"
	"shardkeep/world"
)

// moved has the members changed, and the mover's messages alone delivered, until it is done.
func moved(t *testing.T, w *world.World, nodes []string) {
	t.Helper()
	was, _ := w.Configs()
	begins(t, w.Change(nodes))
	configs(t, "changed", w, was+1, was-1)
	only(w, between("mover"))
	configs(t, "moved", w, was+1, was)
}

// sealsTo are what the mover sends first.
func sealsTo(members []string, op, config int) []wire.Message {
	var l []wire.Message
	for _, member := range members {
		l = append(l, wire.Message{From: "mover", To: member, Kind: "seal", Key: "x", Op: op, Config: config})
	}
	return l
}

// got has a client get what there is: its event.
func got(t *testing.T, w *world.World, who int) world.Event {
	t.Helper()
	was := len(w.Events())
	begins(t, w.Get(who))
	all(w)
	e := w.Events()
	if len(e) != was+1 || e[was].Who != who || e[was].Put {
		t.Fatalf("client %d: events %v", who, e)
	}
	return e[was]
}

// P122: step by step, all that shows: from d, b, a to f, d, g.
func TestChangeSpeltOut(t *testing.T) {
	w := made(t, []string{"a", "b", "d"}, 3, 2)
	begins(t, w.Put(1, "abcd"))
	all(w)
	was := show(w)
	to := preferred(t, []string{"g", "f", "e", "d"}, 3)
	if !slices.Equal(to, []string{"f", "d", "g"}) {
		t.Fatalf("%v: of no use", to)
	}
	begins(t, w.Change([]string{"g", "f", "e", "d"}))
	want := shown{events: was.events, states: states(nil), flying: sealsTo([]string{"d", "b", "a"}, 1, 0), all: 2}
	showsAs(t, "seal", w, want)

	shards, _ := coder.Encode(3, 2, "abcd")
	tag := api.Tag{N: 1, Who: 1}
	var sealed, keeps, kept []wire.Message
	for i, member := range []string{"d", "b", "a"} {
		v := api.Version{Tag: tag, Size: 4, S: shards[i]}
		sealed = append(sealed, wire.Message{From: member, To: "mover", Kind: "sealed", Key: "x", Op: 1, L: []api.Version{v}})
		keeps = append(keeps, wire.Message{From: "mover", To: to[i], Kind: "keep", Key: "x", Op: 1, Config: 1, L: []api.Version{v}})
		kept = append(kept, wire.Message{From: to[i], To: "mover", Kind: "kept", Key: "x", Op: 1, Config: 1})
	}
	deliver(t, w, 3)
	want.flying = sealed
	showsAs(t, "sealed", w, want)
	deliver(t, w, 3)
	want.flying = keeps
	showsAs(t, "keep", w, want)
	deliver(t, w, 3)
	want.flying = kept
	showsAs(t, "kept", w, want)
	deliver(t, w, 2)
	want.flying = kept[2:]
	showsAs(t, "not done", w, want)
	deliver(t, w, 1)
	want.flying, want.active = nil, 1
	showsAs(t, "active", w, want)
	if e := got(t, w, 5); e.Tag != tag || e.Text != "abcd" || !e.Found {
		t.Errorf("got %v", e)
	}
}

// P122: where nothing was put, the next one is active where enough are sealed, and nothing is kept.
func TestChangeOfNothing(t *testing.T) {
	w := three(t)
	begins(t, w.Change([]string{"e", "f", "g"}))
	deliver(t, w, 4)
	configs(t, "one is sealed", w, 2, 0)
	deliver(t, w, 1)
	configs(t, "two are sealed", w, 2, 1)
	flies(t, "the third", w, []wire.Message{{From: "a", To: "mover", Kind: "sealed", Key: "x"}})
	deliver(t, w, 1)
	showsAs(t, "behind its end", w, shown{states: states(nil), all: 2, active: 1})
	if e := got(t, w, 0); e.Found {
		t.Errorf("got %v", e)
	}
}

// P122: the same nodes, fewer, others, some in common, and one more: what was put is there behind each, with its tag.
func TestChangesOfEveryKind(t *testing.T) {
	w := made(t, []string{"a", "b", "d", "e"}, 3, 2)
	begins(t, w.Put(3, "object"))
	all(w)
	for i, nodes := range [][]string{{"a", "b", "d", "e"}, {"e", "d", "b", "a"}, {"a", "b", "d"}, {"e", "f", "g", "h"}, {"a", "f", "h"}, {"a", "f", "h", "i"}, {"i", "j", "k"}} {
		moved(t, w, nodes)
		begins(t, w.Get(i%api.MaxClients))
		var asked []string
		for _, m := range w.Flying() {
			if m.Kind != "look" || m.Config != i+1 {
				continue
			}
			asked = append(asked, m.To)
		}
		if !slices.Equal(asked, preferred(t, nodes, 3)) {
			t.Errorf("behind change %d: asked %v", i, asked)
		}
		all(w)
		e := w.Events()
		if x := e[len(e)-1]; len(e) != i+2 || x.Text != "object" || x.Tag != (api.Tag{N: 1, Who: 3}) {
			t.Fatalf("behind change %d: %v", i, e)
		}
	}
}

// P122: N and K stay: of each size as many are enough behind the change.
func TestNAndKStay(t *testing.T) {
	names := []string{"a", "b", "d", "e", "f", "g", "h", "i", "j", "k", "l", "m", "n", "o", "p", "q"}
	for n := 1; n <= 8; n++ {
		for k := 1; k <= n; k++ {
			w := made(t, names[:8], n, k)
			moved(t, w, names[8:])
			members := preferred(t, names[8:], n)
			for _, node := range members[enoughOf(n, k):] {
				begins(t, w.Down(node))
			}
			begins(t, w.Put(0, "an object"))
			all(w)
			stands(t, "enough", w, 0, "idle")
			begins(t, w.Down(members[0]))
			begins(t, w.Put(0, "another one"))
			all(w)
			stands(t, "too few", w, 0, "looking")
		}
	}
}

// P122: nodes that are new come at once, and are up, preferred or not; those that are there stay as they are; nobody goes.
func TestNodesThatCome(t *testing.T) {
	w := three(t)
	for _, node := range []string{"d", "a"} {
		begins(t, w.Down(node))
	}
	begins(t, w.Up("a"))
	for _, node := range []string{"e", "f", "g"} {
		fails(t, "ahead of it", w, api.ErrNone, func() error { return w.Down(node) })
	}
	begins(t, w.Change([]string{"d", "e", "f", "g"}))
	for _, node := range []string{"a", "b", "d", "e", "f", "g"} {
		if node != "d" {
			begins(t, w.Down(node))
			begins(t, w.Up(node))
		}
	}
	only(w, between("mover"))
	configs(t, "d is down, two others are enough", w, 2, 1)
	begins(t, w.Get(0))
	only(w, func(m wire.Message) bool { return m.Kind == "look" })
	members := preferred(t, []string{"d", "e", "f", "g"}, 3)
	at := slices.Index(members, "d")
	if at < 0 {
		t.Fatalf("%v: of no use", members)
	}
	var want []wire.Message
	for _, member := range slices.Delete(members, at, at+1) {
		want = append(want, wire.Message{From: member, To: "c0", Kind: "told", Key: "x", Op: 1, Config: 1})
	}
	flies(t, "d is down", w, want)
	begins(t, w.Up("d"))
}

// P122: new ones are up where they come, whoever is down.
func TestNewNodesAreUp(t *testing.T) {
	w := three(t)
	begins(t, w.Put(0, "object"))
	all(w)
	begins(t, w.Down("a"))
	moved(t, w, []string{"a", "e", "f"})
	if e := got(t, w, 1); e.Text != "object" {
		t.Errorf("got %v", e)
	}
	begins(t, w.Down("e"))
	begins(t, w.Get(2))
	all(w)
	stands(t, "two of three are down", w, 2, "looking")
}

// P122: a node that is down is not sealed either: where too few hear it, the mover waits.
func TestNodesThatAreDownAreNotSealed(t *testing.T) {
	w := three(t)
	begins(t, w.Down("a"))
	begins(t, w.Down("b"))
	begins(t, w.Change([]string{"e", "f", "g"}))
	all(w)
	configs(t, "one is sealed", w, 2, 0)
	begins(t, w.Up("a"))
	begins(t, w.Up("b"))
	begins(t, w.Down("d"))
	begins(t, w.Get(0))
	all(w)
	happened(t, w, world.Event{From: 4, To: 4 + 5})
}

// wrongNodes are lists that New refuses, with what is told.
func wrongNodes() []struct {
	name  string
	nodes []string
	want  error
	at    int
} {
	return []struct {
		name  string
		nodes []string
		want  error
		at    int
	}{
		{"none", nil, api.ErrBound, -1},
		{"too many", named(17), api.ErrBound, -1},
		{"a name that is none", []string{"a", "b", "D"}, api.ErrName, 2},
		{"too long", []string{strings.Repeat("a", 17), "b", "d"}, api.ErrName, 0},
		{"twice", []string{"a", "b", "b", "d"}, api.ErrExist, 2},
		{"a client", []string{"a", "b", "c0"}, api.ErrExist, 2},
		{"the last client", []string{"a", "c5", "b"}, api.ErrExist, 1},
		{"the mover", []string{"mover", "a", "b"}, api.ErrExist, 0},
		{"a client, too few", []string{"c3"}, api.ErrExist, 0},
		{"a client, then none", []string{"c3", ""}, api.ErrName, 1},
		{"too few", []string{"a", "b"}, api.ErrFew, -1},
		{"too few, and new", []string{"new-1"}, api.ErrFew, -1},
	}
}

// P122: New's errors of nodes, then ring.Prefer's; nobody came, and no Op went.
func TestChangeToNodesThatAreRefused(t *testing.T) {
	w := three(t)
	for _, x := range wrongNodes() {
		failsAt(t, x.name, w, x.want, x.at, func() error { return w.Change(x.nodes) })
	}
	for _, node := range []string{"new-1", "node-99", "mover", "c0"} {
		fails(t, "nobody came", w, api.ErrNone, func() error { return w.Down(node) })
	}
	begins(t, w.Get(0))
	flies(t, "no Op went", w, looks("c0", 0))
	begins(t, w.Change([]string{"a", "b", "d"}))
}

// P122: while the mover has not ended, whatever else is wrong; also where all its messages are lost.
func TestChangeWhileTheMoverMoves(t *testing.T) {
	w := three(t)
	begins(t, w.Put(0, "object"))
	all(w)
	begins(t, w.Change([]string{"e", "f", "g"}))
	heldChange := func() {
		t.Helper()
		fails(t, "others", w, api.ErrHeld, func() error { return w.Change([]string{"a", "b", "d"}) })
		for _, x := range wrongNodes() {
			fails(t, x.name, w, api.ErrHeld, func() error { return w.Change(x.nodes) })
		}
	}
	for {
		if _, active := w.Configs(); active == 1 {
			break
		}
		heldChange()
		deliver(t, w, 1)
	}
	begins(t, w.Change([]string{"a", "b", "d"}))
	for len(w.Flying()) > 0 {
		begins(t, w.Drop(0))
	}
	heldChange()
	configs(t, "all is lost", w, 3, 1)
}

// P122: up to MaxConfigs of them; then it is told ahead of what nodes are wrong, and behind the mover.
func TestMaxConfigs(t *testing.T) {
	w := three(t)
	begins(t, w.Put(0, "object"))
	all(w)
	for i := range api.MaxConfigs - 1 {
		if i%2 == 0 {
			moved(t, w, []string{"e", "f", "g"})
		} else {
			moved(t, w, []string{"a", "b", "d"})
		}
	}
	configs(t, "the last", w, api.MaxConfigs, api.MaxConfigs-1)
	fails(t, "one more", w, api.ErrFull, func() error { return w.Change([]string{"a", "b", "d"}) })
	for _, x := range wrongNodes() {
		fails(t, x.name, w, api.ErrFull, func() error { return w.Change(x.nodes) })
	}
	if e := got(t, w, 1); e.Text != "object" || e.Tag != (api.Tag{N: 1}) {
		t.Errorf("got %v", e)
	}
}

// P122: MaxConfigs are there while the mover moves to the last of them: it is not done.
func TestMaxConfigsAndTheMover(t *testing.T) {
	w := three(t)
	for range api.MaxConfigs - 2 {
		moved(t, w, []string{"a", "b", "d"})
	}
	begins(t, w.Change([]string{"a", "b", "d"}))
	configs(t, "the last", w, api.MaxConfigs, api.MaxConfigs-2)
	fails(t, "the mover moves", w, api.ErrHeld, func() error { return w.Change([]string{"a", "b", "d"}) })
	all(w)
	fails(t, "the mover is done", w, api.ErrFull, func() error { return w.Change([]string{"a", "b", "d"}) })
}

// P122: up to MaxNodes in all, those that are in no configuration any more, too; told behind all other errors.
func TestMaxNodes(t *testing.T) {
	w := made(t, named(10), 3, 1)
	fresh := []string{"a", "b", "d", "e", "f", "g", "h"}
	fails(t, "one too many", w, api.ErrFull, func() error { return w.Change(fresh) })
	fails(t, "one too many, with others", w, api.ErrFull, func() error { return w.Change(append(named(3), fresh...)) })
	fails(t, "nobody came", w, api.ErrNone, func() error { return w.Down("a") })
	moved(t, w, fresh[:6])
	for _, x := range wrongNodes() {
		failsAt(t, x.name, w, x.want, x.at, func() error { return w.Change(x.nodes) })
	}
	failsAt(t, "a name that is none", w, api.ErrName, 3, func() error { return w.Change([]string{"h", "i", "j", "I"}) })
	failsAt(t, "a client", w, api.ErrExist, 3, func() error { return w.Change([]string{"h", "i", "j", "c0"}) })
	fails(t, "too few", w, api.ErrFew, func() error { return w.Change([]string{"h", "i"}) })
	fails(t, "one more", w, api.ErrFull, func() error { return w.Change([]string{"a", "b", "h"}) })
	fails(t, "three more", w, api.ErrFull, func() error { return w.Change([]string{"h", "i", "j"}) })
	fails(t, "nobody came", w, api.ErrNone, func() error { return w.Up("h") })
	moved(t, w, append(named(10), fresh[:6]...))
	moved(t, w, named(3))
	fails(t, "one more", w, api.ErrFull, func() error { return w.Change([]string{"a", "b", "h"}) })
	begins(t, w.Down("f"))
}

// P122: the mover carries what enough have kept, though its first messages come late and doubled; an answer to an earlier mover is nothing to a later one.
func TestAnswersToAnEarlierMover(t *testing.T) {
	w := three(t)
	begins(t, w.Put(0, "object"))
	all(w)
	begins(t, w.Change([]string{"a", "b", "d"}))
	deliver(t, w, 2)
	begins(t, w.Twice(where(t, w, to("mover", "sealed"))))
	begins(t, w.Twice(where(t, w, to("mover", "sealed"))))
	at := where(t, w, func(m wire.Message) bool { return m.Kind == "sealed" && m.From == "b" })
	begins(t, w.Twice(at))
	// Of the five answers of d and b two are heard: the others stay.
	begins(t, w.Deliver(at))
	begins(t, w.Deliver(where(t, w, to("mover", "sealed"))))
	only(w, func(m wire.Message) bool { return m.Kind == "keep" || m.Kind == "kept" })
	configs(t, "moved", w, 2, 1)
	begins(t, w.Change([]string{"e", "f", "g"}))
	for range 3 {
		begins(t, w.Deliver(where(t, w, to("mover", "sealed"))))
	}
	configs(t, "answers to the first", w, 3, 1)
	all(w)
	configs(t, "moved again", w, 3, 2)
	if e := got(t, w, 1); e.Text != "object" {
		t.Errorf("got %v", e)
	}
}

// P120, P122: seals beyond MaxFlying are lost, and the mover waits.
func TestChangeWhereThereIsNoRoom(t *testing.T) {
	for free := range 4 {
		w := three(t)
		begins(t, w.Get(0))
		for len(w.Flying()) < api.MaxFlying {
			begins(t, w.Again(0))
		}
		for range free {
			begins(t, w.Drop(0))
		}
		was := w.Flying()
		begins(t, w.Change([]string{"e", "f", "g"}))
		flies(t, strconv.Itoa(free), w, append(was, sealsTo([]string{"d", "b", "a"}, 1, 0)[:free]...))
		only(w, between("mover"))
		if free < 2 {
			configs(t, "too few are sealed", w, 2, 0)
		} else {
			configs(t, "enough are sealed", w, 2, 1)
		}
	}
}

// P122: nothing that was done ahead of the mover's end is left behind, whichever members were down.
func TestWhatWasDoneIsCarried(t *testing.T) {
	nodes, next := []string{"a", "b", "d", "e", "f"}, []string{"f", "g", "h", "i", "j"}
	for _, downPut := range nodes {
		for _, downMove := range nodes {
			w := made(t, nodes, 5, 3)
			begins(t, w.Down(downPut))
			begins(t, w.Put(2, "object"))
			all(w)
			begins(t, w.Up(downPut))
			begins(t, w.Down(downMove))
			moved(t, w, next)
			if e := got(t, w, 4); e.Text != "object" || e.Tag != (api.Tag{N: 1, Who: 2}) {
				t.Errorf("%s, %s: got %v", downPut, downMove, e)
			}
		}
	}
}
