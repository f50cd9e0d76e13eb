package world_test

import (
	"math/rand/v2"
	"slices"
	"strconv"
	"testing"

	"shardkeep/api"
)

// P122, P140: nodes stand in the order in which they came, also where they are members no more, or never were; who is down is there, too.
func TestNodesInTheOrderInWhichTheyCame(t *testing.T) {
	for count := 1; count <= api.MaxNodes; count++ {
		if got := made(t, named(count), 1, 1).Nodes(); !slices.Equal(got, named(count)) {
			t.Errorf("%v, want %v", got, named(count))
		}
	}
	w := made(t, []string{"d", "a", "e", "b"}, 3, 1)
	begins(t, w.Down("a"))
	want := []string{"d", "a", "e", "b"}
	for _, x := range []struct{ nodes, fresh []string }{
		{[]string{"q", "b", "g", "d"}, []string{"q", "g"}},
		{[]string{"d", "a", "b"}, nil},
		{[]string{"h", "g", "f"}, []string{"h", "f"}},
	} {
		failsAt(t, "refused", w, api.ErrName, 3, func() error { return w.Change([]string{"z", "y", "x", "Z"}) })
		begins(t, w.Change(x.nodes))
		want = append(want, x.fresh...)
		if got := w.Nodes(); !slices.Equal(got, want) {
			t.Errorf("changed to %v: %v, want %v", x.nodes, got, want)
		}
		only(w, between("mover"))
		if got := w.Nodes(); !slices.Equal(got, want) {
			t.Errorf("moved to %v: %v, want %v", x.nodes, got, want)
		}
	}
}

// P4
func TestNodesAreNewMemory(t *testing.T) {
	in := []string{"node-d", "node-a", "node-e"}
	w := made(t, in, 3, 1)
	first := w.Nodes()
	for i, node := range first {
		if overlap(node, in[i]) || overlap(node, w.Nodes()[i]) {
			t.Errorf("%s shares memory", node)
		}
	}
	clear(first)
	_ = append(first[:1], "more")
	if got := w.Nodes(); !slices.Equal(got, in) {
		t.Errorf("%v, want %v", got, in)
	}
}

// P120: as many as Flying has, behind each step; to ask changes nothing.
func TestHowManyFly(t *testing.T) {
	r := rand.New(rand.NewPCG(12, 14))
	most := 0
	for range 20 {
		w := made(t, []string{"a", "b", "d", "e", "f"}, 3, 2)
		o := odds{begin: 10, drop: 1, twice: r.IntN(50), turn: 1, again: 10, retry: 3, change: 1}
		for at := range 300 {
			_ = o.draw(r, 3, w.HowManyFly(), "t"+strconv.Itoa(at)).call(worldlyOf(w))
			was := show(w)
			if got := w.HowManyFly(); got != len(was.flying) {
				t.Fatalf("%d fly, not %d", len(was.flying), got)
			}
			showsAs(t, "asked", w, was)
			most = max(most, len(was.flying))
		}
	}
	if most != api.MaxFlying {
		t.Errorf("at most %d: of no use", most)
	}
}
