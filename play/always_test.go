package play_test

import (
	"math/rand/v2"
	"slices"
	"testing"

	"shardkeep/play"
	"shardkeep/world"
)

// count of what happened in many worlds.
type count struct{ events, gets, moves, turned int }

// look at a world's events: they are in order; turned around most are not, or the order would be of no use.
func (c *count) look(t *testing.T, w *world.World) {
	t.Helper()
	l := w.Events()
	if err := play.Order(l); err != nil {
		t.Fatalf("%v: %v", err, l)
	}
	for _, e := range l {
		if e.Found && !e.Put {
			c.gets++
		}
	}
	_, active := w.Configs()
	c.events += len(l)
	c.moves += active
	for i := range l {
		l[i].From, l[i].To = -l[i].To, -l[i].From
	}
	slices.Reverse(l)
	if play.Order(l) == nil {
		return
	}
	c.turned++
}

// P142: whatever is lost, doubled and turned around, whoever is down: scripts alone, of as many steps as may be.
func TestPlaysAreInOrder(t *testing.T) {
	r := rand.New(rand.NewPCG(14, 142))
	var c count
	for range 500 {
		n := 1 + r.IntN(5)
		w := made(t, five(), n, 1+r.IntN(n))
		o := odds{drop: r.IntN(2), twice: 5 + r.IntN(20), begin: 8, down: r.IntN(2), up: 4, below: 1}
		play.Play(w, o.script(r, 3000))
		c.look(t, w)
	}
	if c.events < 5000 || c.gets < 2000 || c.turned < 300 {
		t.Errorf("%+v: of no use", c)
	}
}

// P142: where nodes change between plays, too, and clients that were refused begin anew.
func TestPlaysAreInOrderWhereMembersChange(t *testing.T) {
	r := rand.New(rand.NewPCG(14, 1420))
	var c count
	for range 400 {
		n := 1 + r.IntN(5)
		w := made(t, five(), n, 1+r.IntN(n))
		o := odds{drop: r.IntN(2), twice: r.IntN(10), begin: 8, down: r.IntN(2), up: 4, below: 1}
		for range 40 {
			play.Play(w, o.script(r, 20+r.IntN(60)))
			between(r, nil, w)
		}
		c.look(t, w)
	}
	if c.events < 8000 || c.gets < 3000 || c.moves < 1000 || c.turned < 300 {
		t.Errorf("%+v: of no use", c)
	}
}
