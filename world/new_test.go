package world_test

import (
	"errors"
	"math"
	"strconv"
	"strings"
	"testing"

	"shardkeep/api"
	"shardkeep/ring"
	"shardkeep/wire"
	"shardkeep/world"
)

// named has nodes whose order is not the one of their names.
func named(count int) []string {
	l := make([]string, count)
	for i := range l {
		l[i] = "node-" + strconv.Itoa(99-i)
	}
	return l
}

// made has a world that must be there.
func made(t *testing.T, nodes []string, n, k int) *world.World {
	t.Helper()
	w, err := world.New(nodes, n, k)
	if w == nil || err != nil {
		t.Fatalf("no world: %v", err)
	}
	return w
}

// preferred has a configuration's members.
func preferred(t *testing.T, nodes []string, n int) []string {
	t.Helper()
	l, err := ring.Prefer(nodes, "x", n)
	if err != nil {
		t.Fatal(err)
	}
	return l
}

// told asks for an error, and its place: with -1 it is bare.
func told(t *testing.T, name string, err, want error, at int) {
	t.Helper()
	var fault *api.Fault
	switch {
	case at < 0 && err != want:
		t.Errorf("%s: told %v, want %v, bare", name, err, want)
	case at >= 0 && (!errors.As(err, &fault) || fault.At != at || fault.Err != want):
		t.Errorf("%s: told %v, want %v at %d", name, err, want, at)
	}
}

// refusedNew asks for an error, and for no world beside it.
func refusedNew(t *testing.T, name string, nodes []string, n, k int, want error, at int) {
	t.Helper()
	w, err := world.New(nodes, n, k)
	if w != nil {
		t.Errorf("%s: a world beside %v", name, err)
	}
	told(t, name, err, want, at)
}

// P120, P123: at first nothing flies, nothing is done, all clients are idle, and configuration 0 is active.
func TestWorldsOfEverySize(t *testing.T) {
	for n := 1; n <= api.MaxShards; n++ {
		for k := 1; k <= n; k++ {
			for _, count := range []int{n, n + 1, api.MaxNodes} {
				w := made(t, named(count), n, k)
				showsAs(t, strconv.Itoa(n)+", "+strconv.Itoa(k), w, shown{states: states(nil), all: 1})
			}
		}
	}
}

// P120, P121: its members are those that `x` prefers, in that order, of all its nodes; all fields are spelt out.
func TestMembersOfTheFirstConfiguration(t *testing.T) {
	for count := 1; count <= api.MaxNodes; count++ {
		for n := 1; n <= min(count, api.MaxShards); n++ {
			w := made(t, named(count), n, 1)
			begins(t, w.Get(3))
			var want []wire.Message
			for _, member := range preferred(t, named(count), n) {
				want = append(want, wire.Message{From: "c3", To: member, Kind: "look", Key: "x"})
			}
			flies(t, "look", w, want)
		}
	}
	w := made(t, []string{"a", "b", "c", "d"}, 2, 1)
	begins(t, w.Get(0))
	if l := w.Flying(); len(l) != 2 || l[0].To != "d" || l[1].To != "b" || l[0].Key != "x" {
		t.Errorf("flies %v", l)
	}
}

// P120: what ring.Check refuses, ahead of all else.
func TestNodesThatAreRefused(t *testing.T) {
	long := strings.Repeat("n", api.MaxName)
	for _, x := range []struct {
		name  string
		nodes []string
		want  error
		at    int
	}{
		{"none", nil, api.ErrBound, -1},
		{"an empty list", []string{}, api.ErrBound, -1},
		{"one too many", named(17), api.ErrBound, -1},
		{"far too many", make([]string, 1<<12), api.ErrBound, -1},
		{"one too many, and taken", append(named(16), "c0"), api.ErrBound, -1},
		{"an empty name", []string{"a", ""}, api.ErrName, 1},
		{"capitals", []string{"A", "b"}, api.ErrName, 0},
		{"a blank", []string{"a", "b", "c d"}, api.ErrName, 2},
		{"a name too long", []string{long, long + "n"}, api.ErrName, 1},
		{"twice", []string{"a", "b", "a", ""}, api.ErrExist, 2},
		{"a name that is none, then twice", []string{"a", "", "a"}, api.ErrName, 1},
		{"taken, then none", []string{"c0", "A"}, api.ErrName, 1},
		{"taken, and twice", []string{"mover", "a", "mover"}, api.ErrExist, 2},
		{"taken, then twice", []string{"c5", "a", "a"}, api.ErrExist, 2},
	} {
		refusedNew(t, x.name, x.nodes, 1, 1, x.want, x.at)
		refusedNew(t, x.name+", and N", x.nodes, 99, 1, x.want, x.at)
		refusedNew(t, x.name+", and K", x.nodes, 1, 0, x.want, x.at)
		refusedNew(t, x.name+", and both", x.nodes, -1, -1, x.want, x.at)
	}
	made(t, []string{long, "-", "0", "z"}, 4, 4)
}

// P120: the first by the name of a client or of the mover, wherever it stands; ahead of N and K.
func TestNamesThatAreTaken(t *testing.T) {
	for _, name := range []string{"c0", "c1", "c2", "c3", "c4", "c5", "mover"} {
		for at := range 4 {
			nodes := []string{"a", "b", "d", "e"}
			nodes[at] = name
			refusedNew(t, name, nodes, 3, 1, api.ErrExist, at)
			refusedNew(t, name+", and N", nodes, 5, 1, api.ErrExist, at)
			refusedNew(t, name+", and N below 0", nodes, -1, 1, api.ErrExist, at)
			refusedNew(t, name+", and K", nodes, 3, 4, api.ErrExist, at)
		}
	}
	refusedNew(t, "several", []string{"a", "mover", "c0", "c1"}, 1, 1, api.ErrExist, 1)
	refusedNew(t, "several, turned", []string{"a", "c1", "c0", "mover"}, 1, 1, api.ErrExist, 1)
}

// P120: a name near one is free, and its node is asked.
func TestNamesThatAreFree(t *testing.T) {
	free := []string{"c6", "c", "c-1", "c00", "c10", "c5-", "move", "movers", "mover-", "0", "idle", "x"}
	w := made(t, free, len(free), 1)
	begins(t, w.Put(0, "an object"))
	all(w)
	happened(t, w, world.Event{Put: true, Found: true, Tag: api.Tag{N: 1}, Text: "an object", To: doneAt(len(free), 1)})
}

// P120: of N what ring.Prefer refuses, then of N and K what quorum.Check refuses; bare.
func TestNumbersThatAreRefused(t *testing.T) {
	for _, x := range []struct {
		nodes, n, k int
		want        error
	}{
		{3, 4, 1, api.ErrFew}, {3, 4, 0, api.ErrFew}, {3, 4, 9, api.ErrFew}, {1, 2, 1, api.ErrFew}, {16, 17, 1, api.ErrFew},
		{12, 13, 1, api.ErrFew}, {3, math.MaxInt, math.MaxInt, api.ErrFew}, {3, math.MaxInt, math.MinInt, api.ErrFew},
		{3, -1, 1, api.ErrBound}, {3, -1, -1, api.ErrBound}, {3, math.MinInt, 1, api.ErrBound},
		{3, 0, 0, api.ErrBound}, {3, 0, 1, api.ErrBound}, {13, 13, 1, api.ErrBound}, {16, 13, 5, api.ErrBound}, {16, 16, 16, api.ErrBound},
		{3, 3, 0, api.ErrBound}, {3, 3, 4, api.ErrBound}, {3, 2, 3, api.ErrBound}, {3, 3, -1, api.ErrBound},
		{3, 3, math.MinInt, api.ErrBound}, {3, 3, math.MaxInt, api.ErrBound}, {16, 12, 13, api.ErrBound},
	} {
		refusedNew(t, strconv.Itoa(x.n)+", "+strconv.Itoa(x.k), named(x.nodes), x.n, x.k, x.want, -1)
	}
}

// P120: MaxFlying messages fly, in the order in which they were sent; one more is lost, and so is what is behind it.
func TestWhatIsBeyondIsLost(t *testing.T) {
	w := made(t, named(12), 12, 1)
	for who := range api.MaxClients {
		begins(t, w.Get(who))
	}
	for range 4 {
		begins(t, w.Again(5))
	}
	full := w.Flying()
	if len(full) != api.MaxFlying {
		t.Fatalf("%d fly: of no use", len(full))
	}
	begins(t, w.Again(0))
	flies(t, "behind MaxFlying", w, full)

	w = made(t, named(7), 7, 1)
	begins(t, w.Get(2))
	for range 16 {
		begins(t, w.Again(2))
	}
	almost := w.Flying()
	if len(almost) != api.MaxFlying-1 {
		t.Fatalf("%d fly: of no use", len(almost))
	}
	begins(t, w.Get(4))
	first := wire.Message{From: "c4", To: preferred(t, named(7), 7)[0], Kind: "look", Key: "x", Op: 1}
	flies(t, "just the first of seven has room", w, append(almost, first))
}

// P120, P121: what goes makes room ahead of what is sent by it.
func TestRoomForAnAnswer(t *testing.T) {
	w := made(t, named(12), 12, 1)
	for who := range api.MaxClients {
		begins(t, w.Get(who))
	}
	for range 4 {
		begins(t, w.Again(0))
	}
	was := w.Flying()
	begins(t, w.Deliver(3))
	want := append(append([]wire.Message{}, was[:3]...), was[4:]...)
	flies(t, "an answer", w, append(want, wire.Message{From: was[3].To, To: "c0", Kind: "told", Key: "x"}))
}

// P120: of the twelve that a client sends then, just one has room.
func TestRoomForOneOfMany(t *testing.T) {
	w := made(t, named(12), 12, 1)
	begins(t, w.Put(0, "an object"))
	for range 12 {
		begins(t, w.Deliver(0))
	}
	for range 6 {
		begins(t, w.Deliver(0))
	}
	begins(t, w.Get(1))
	for len(w.Flying()) < api.MaxFlying {
		begins(t, w.Again(1))
	}
	was := w.Flying()
	begins(t, w.Deliver(0))
	now := w.Flying()
	if w.State(0) != "keeping" || len(now) != api.MaxFlying {
		t.Fatalf("%s, %d fly", w.State(0), len(now))
	}
	last := now[len(now)-1]
	if last.Kind != "keep" || last.To != preferred(t, named(12), 12)[0] || !same(now[len(now)-2], was[len(was)-1]) {
		t.Errorf("the last are %v", now[len(now)-2:])
	}
}
