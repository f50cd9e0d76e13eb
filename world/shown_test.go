package world_test

import (
	"slices"
	"testing"

	"shardkeep/api"
	"shardkeep/wire"
	"shardkeep/world"
)

// shown is all that a world tells of itself: states from client -1 to client MaxClients.
type shown struct {
	events      []world.Event
	flying      []wire.Message
	states      []string
	all, active int
}

func show(w *world.World) shown {
	x := shown{events: w.Events(), flying: w.Flying()}
	for who := -1; who <= api.MaxClients; who++ {
		x.states = append(x.states, w.State(who))
	}
	x.all, x.active = w.Configs()
	return x
}

// states has all clients idle, but those that are told.
func states(other map[int]string) []string {
	l := make([]string, api.MaxClients+2)
	for i := range l {
		l[i] = "idle"
		if state, ok := other[i-1]; ok {
			l[i] = state
		}
	}
	return l
}

// same takes a nil list and an empty one for one thing.
func same(a, b wire.Message) bool {
	return a.From == b.From && a.To == b.To && a.Kind == b.Kind && a.Key == b.Key && a.Op == b.Op &&
		a.Config == b.Config && a.Sealed == b.Sealed && slices.Equal(a.L, b.L)
}

func (x shown) same(y shown) bool {
	return slices.Equal(x.events, y.events) && slices.EqualFunc(x.flying, y.flying, same) &&
		slices.Equal(x.states, y.states) && x.all == y.all && x.active == y.active
}

func showsAs(t *testing.T, name string, w *world.World, want shown) {
	t.Helper()
	if got := show(w); !got.same(want) {
		t.Fatalf("%s: shows\n%v, want\n%v", name, got, want)
	}
}

// fails asks for an error, bare, and that nothing shows of the call.
func fails(t *testing.T, name string, w *world.World, want error, call func() error) {
	t.Helper()
	failsAt(t, name, w, want, -1, call)
}

// failsAt asks for an error at a place, and that nothing shows of the call.
func failsAt(t *testing.T, name string, w *world.World, want error, at int, call func() error) {
	t.Helper()
	was := show(w)
	told(t, name, call(), want, at)
	showsAs(t, name, w, was)
}

// begins asks for no error.
func begins(t *testing.T, err error) {
	t.Helper()
	if err != nil {
		t.Fatalf("told %v", err)
	}
}

// flies asks for the messages: all fields, in order.
func flies(t *testing.T, name string, w *world.World, want []wire.Message) {
	t.Helper()
	if got := w.Flying(); !slices.EqualFunc(got, want, same) {
		t.Fatalf("%s: flies\n%v, want\n%v", name, got, want)
	}
}

// stands asks for a client's state.
func stands(t *testing.T, name string, w *world.World, who int, want string) {
	t.Helper()
	if got := w.State(who); got != want {
		t.Fatalf("%s: client %d is %s, want %s", name, who, got, want)
	}
}

// configs asks for how many there are, and which is active.
func configs(t *testing.T, name string, w *world.World, all, active int) {
	t.Helper()
	if gotAll, got := w.Configs(); gotAll != all || got != active {
		t.Fatalf("%s: configurations %d, %d, want %d, %d", name, gotAll, got, all, active)
	}
}

// happened asks for all events.
func happened(t *testing.T, w *world.World, want ...world.Event) {
	t.Helper()
	if got := w.Events(); !slices.Equal(got, want) {
		t.Fatalf("events\n%v, want\n%v", got, want)
	}
}

// all has everything delivered, the first first: how many.
func all(w *world.World) int {
	count := 0
	for w.Deliver(0) == nil {
		count++
	}
	return count
}

// deliver has so many delivered, the first first.
func deliver(t *testing.T, w *world.World, count int) {
	t.Helper()
	for range count {
		begins(t, w.Deliver(0))
	}
}

// where tells at which place a message flies, the first of which this is so.
func where(t *testing.T, w *world.World, is func(m wire.Message) bool) int {
	t.Helper()
	at := slices.IndexFunc(w.Flying(), is)
	if at < 0 {
		t.Fatalf("no such message among %v", w.Flying())
	}
	return at
}

// only delivers those of which this is so, until none is left: how many.
func only(w *world.World, is func(m wire.Message) bool) int {
	for count := 0; ; count++ {
		at := slices.IndexFunc(w.Flying(), is)
		if at < 0 {
			return count
		}
		w.Deliver(at)
	}
}

// between are messages from one or to one.
func between(name string) func(m wire.Message) bool {
	return func(m wire.Message) bool { return m.From == name || m.To == name }
}

// to are messages to one, of a Kind.
func to(name, kind string) func(m wire.Message) bool {
	return func(m wire.Message) bool { return m.To == name && m.Kind == kind }
}

// enoughOf is the fewest that are no fewer than half of n and k.
func enoughOf(n, k int) int {
	enough := 0
	for enough+enough < n+k {
		enough++
	}
	return enough
}

// doneAt tells with which Deliver a lone client is done that keeps something, where the first message is always delivered first: all are asked, all answer, enough of those are heard while the answers of the others are left behind; and once more.
func doneAt(n, k int) int { return n + n + n + enoughOf(n, k) }
