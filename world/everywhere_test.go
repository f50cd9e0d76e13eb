package world_test

import (
	"math"
	"math/rand/v2"
	"slices"
	"strconv"
	"strings"
	"sync"
	"testing"
	"unsafe"

	"shardkeep/api"
	"shardkeep/plain"
	"shardkeep/wire"
	"shardkeep/world"
)

// script has steps that are drawn from a seed: how many fly is guessed, so that it hangs on no world.
func script(seed uint64, steps int) []step {
	r := rand.New(rand.NewPCG(seed, 12))
	o := odds{begin: 9, drop: 1, twice: 4, turn: 2, again: 3, retry: 3, change: 3}
	var l []step
	for at := range steps {
		l = append(l, o.draw(r, 3, 1+r.IntN(12), "t"+strconv.Itoa(at)))
	}
	return l
}

// played is all that a world of five nodes tells of itself behind each step of a script.
func played(t *testing.T, l []step) []shown {
	t.Helper()
	w := made(t, []string{"a", "b", "d", "e", "f"}, 3, 2)
	var all []shown
	for _, x := range l {
		x.call(worldlyOf(w))
		all = append(all, show(w))
	}
	return all
}

func sameAll(a, b []shown) bool { return slices.EqualFunc(a, b, shown.same) }

// busy asks that a play is of use.
func busy(t *testing.T, l []shown) {
	t.Helper()
	last := l[len(l)-1]
	if len(last.events) < 10 || last.active < 2 {
		t.Fatalf("%d events, configuration %d: of no use", len(last.events), last.active)
	}
}

// P1: that the test ends is what it asks.
func TestEveryCallEnds(t *testing.T) {
	long := strings.Repeat("\xff\x00", 1<<12)
	numbers := []int{math.MinInt, math.MinInt32, -1, 0, 1, 5, 6, 12, 13, 120, 121, math.MaxInt32, math.MaxInt}
	names := []string{"", "a", "c0", "c5", "c6", "mover", "x", long}
	lists := [][]string{nil, {}, {""}, {"a"}, {"a", "a"}, {"mover"}, {"a", long}, named(12), named(16), named(17), make([]string, 1<<12), {"a", "b", "d"}}
	for _, nodes := range lists {
		for _, n := range numbers {
			for _, k := range numbers {
				w, err := world.New(nodes, n, k)
				if (w == nil) == (err == nil) {
					t.Fatalf("%v beside %v", w, err)
				}
			}
		}
	}
	for _, w := range []*world.World{three(t), made(t, named(16), 12, 12), made(t, []string{"a"}, 1, 1), made(t, named(16), 12, 1)} {
		for range 3 {
			for _, number := range numbers {
				for _, text := range names {
					w.Put(number, text)
					w.Get(number)
					w.Deliver(number)
					w.Drop(number)
					w.Twice(number)
					w.Down(text)
					w.Up(text)
					w.Again(number)
					w.Retry(number)
					show(w)
					w.State(number)
				}
			}
			for _, nodes := range lists {
				w.Change(nodes)
				show(w)
			}
			for len(w.Flying()) > 0 {
				w.Deliver(len(w.Flying()) / 2)
			}
		}
	}
}

// P1: a very long play ends, and no more flies than may.
func TestAVeryLongPlay(t *testing.T) {
	w := made(t, named(12), 12, 3)
	most := strings.Repeat("x", api.MaxText)
	for i := range 20000 {
		w.Put(i%api.MaxClients, most)
		w.Get((i + 3) % api.MaxClients)
		w.Again(i % api.MaxClients)
		w.Twice(0)
		w.Deliver(i % 7)
		if i%1000 == 0 && len(w.Flying()) > api.MaxFlying {
			t.Fatalf("%d fly", len(w.Flying()))
		}
	}
}

// P2: the same steps make the same world, however many work side by side, and whatever others do meanwhile.
func TestTheSameStepsMakeTheSameWorld(t *testing.T) {
	l := script(49, 600)
	want := played(t, l)
	busy(t, want)
	var got [16][]shown
	var wait sync.WaitGroup
	for i := range got {
		wait.Go(func() {
			played(t, script(uint64(2+i), 100))
			got[i] = played(t, l)
		})
	}
	wait.Wait()
	for i, x := range got {
		if !sameAll(x, want) {
			t.Errorf("worker %d was told otherwise", i)
		}
	}
}

// P2: worlds by turns know nothing of each other.
func TestWorldsByTurns(t *testing.T) {
	scripts := [][]step{script(49, 600), script(8, 600), script(49, 600)}
	var worlds [3]*world.World
	var got [3][]shown
	for i := range worlds {
		worlds[i] = made(t, []string{"a", "b", "d", "e", "f"}, 3, 2)
	}
	for at := range scripts[0] {
		for i, w := range worlds {
			scripts[i][at].call(worldlyOf(w))
			got[i] = append(got[i], show(w))
		}
	}
	for i, l := range scripts {
		if !sameAll(got[i], played(t, l)) {
			t.Errorf("world %d was told otherwise", i)
		}
	}
	if sameAll(got[0], got[1]) || !sameAll(got[0], got[2]) {
		t.Error("of no use")
	}
}

// P2: the order of nodes makes no difference; and to look at a world is nothing to it.
func TestLookingChangesNothing(t *testing.T) {
	l := script(49, 600)
	want := played(t, l)
	w := made(t, []string{"f", "d", "a", "b", "e"}, 3, 2)
	for _, x := range l {
		x.call(worldlyOf(w))
	}
	showsAs(t, "the last", w, want[len(want)-1])
}

// P3, P5: errors by their numbers, bare but where a place is told; of several the one that is named first.
func TestErrorsByNumbers(t *testing.T) {
	type asked struct {
		name     string
		err      error
		code, at int
	}
	check := func(l []asked) {
		t.Helper()
		for _, x := range l {
			if code, at := plain.Code(x.err); code != x.code || at != x.at {
				t.Errorf("%s: %d at %d, want %d at %d", x.name, code, at, x.code, x.at)
			}
		}
	}
	made := func(nodes []string, n, k int) error {
		_, err := world.New(nodes, n, k)
		return err
	}
	check([]asked{
		{"no nodes", made(nil, -1, -1), 2, -1},
		{"a name", made([]string{"c0", ""}, 9, 10), 4, 1},
		{"twice", made([]string{"c0", "c0"}, 9, 10), 6, 1},
		{"taken", made([]string{"a", "c0"}, 9, 10), 6, 1},
		{"too few", made([]string{"a", "b"}, 9, 10), 8, -1},
		{"below 0", made([]string{"a", "b"}, -9, -10), 2, -1},
		{"K", made([]string{"a", "b"}, 2, 3), 2, -1},
		{"none of them", made([]string{"a", "b"}, 2, 2), 0, -1},
	})
	w := three(t)
	long := strings.Repeat("x", api.MaxText+1)
	begins(t, w.Put(0, "object"))
	check([]asked{
		{"Put", w.Put(6, long), 2, -1}, {"Put", w.Put(0, long), 2, -1}, {"Put", w.Put(0, ""), 11, -1},
		{"Get", w.Get(-1), 2, -1}, {"Get", w.Get(0), 11, -1},
		{"Deliver", w.Deliver(3), 5, -1}, {"Drop", w.Drop(-1), 5, -1}, {"Twice", w.Twice(3), 5, -1},
		{"Down", w.Down("c0"), 5, -1}, {"Up", w.Up(""), 5, -1},
		{"Again", w.Again(6), 2, -1}, {"Again", w.Again(1), 5, -1},
		{"Retry", w.Retry(6), 2, -1}, {"Retry", w.Retry(0), 5, -1},
		{"Change", w.Change(nil), 2, -1}, {"Change", w.Change([]string{"a", "B"}), 4, 1}, {"Change", w.Change([]string{"a", "mover"}), 6, 1},
		{"Change", w.Change([]string{"a"}), 8, -1}, {"Change", w.Change(named(14)), 7, -1},
		{"none of them", w.Change([]string{"a", "b", "d"}), 0, -1}, {"Change", w.Change(nil), 11, -1},
	})
	for len(w.Flying()) < api.MaxFlying {
		begins(t, w.Again(0))
	}
	check([]asked{{"Twice", w.Twice(0), 7, -1}, {"Twice", w.Twice(api.MaxFlying), 5, -1}})
	w = refusedAhead(t, []string{"a", "b", "d"}, put)
	check([]asked{{"Retry", w.Retry(0), 10, -1}, {"Retry", w.Retry(-1), 2, -1}, {"Again", w.Again(0), 5, -1}, {"Put", w.Put(0, ""), 11, -1}})
}

// P3: calls that answer errors, ahead of each step, change nothing that a later call could tell.
func TestErrorsChangeNothing(t *testing.T) {
	l := script(49, 600)
	want := played(t, l)
	w := made(t, []string{"a", "b", "d", "e", "f"}, 3, 2)
	long := strings.Repeat("x", api.MaxText+1)
	for i, x := range l {
		flying := len(w.Flying())
		for _, err := range []error{
			w.Put(-1, "x"), w.Put(i%api.MaxClients, long), w.Get(api.MaxClients), w.Deliver(-1), w.Deliver(flying), w.Drop(flying), w.Twice(flying),
			w.Down("q"), w.Up("mover"), w.Again(-1), w.Retry(api.MaxClients), w.Change(nil), w.Change([]string{"r", "s", "t", ""}),
			w.Change([]string{"r", "s", "t", "c0"}), w.Change([]string{"r"}), w.Change(named(14)),
		} {
			if err == nil {
				t.Fatal("no error: of no use")
			}
		}
		for who := range api.MaxClients {
			if state := w.State(who); state != "idle" && (w.Put(who, "x") == nil || w.Get(who) == nil) || state != "looking" && w.Again(who) == nil || state != "refused" && w.Retry(who) == nil {
				t.Fatal("no error: of no use")
			}
		}
		x.call(worldlyOf(w))
		showsAs(t, x.name, w, want[i])
	}
}

// P3: what lies behind a length is neither read nor written.
func TestBehindLengths(t *testing.T) {
	nodes := []string{"d", "b", "a", "e", "more", "more"}
	w := made(t, nodes[:3], 3, 1)
	told(t, "Down", w.Down("e"), api.ErrNone, -1)
	begins(t, w.Change(nodes[1:4]))
	told(t, "Down", w.Down("more"), api.ErrNone, -1)
	all(w)
	configs(t, "moved", w, 2, 1)
	if !slices.Equal(nodes, []string{"d", "b", "a", "e", "more", "more"}) {
		t.Errorf("written: %v", nodes)
	}
	begins(t, w.Get(0))
	l := w.Flying()
	_ = append(l[:1], wire.Message{})
	flies(t, "members", w, looksAt("c0", preferred(t, []string{"b", "a", "e"}, 3), 1, 1))
}

// P4: lists that were handed over are only read, and changed behind each call.
func TestListsAreOnlyReadAndNotKept(t *testing.T) {
	nodes, next := []string{"a", "b", "d"}, []string{"e", "f", "g"}
	w := made(t, nodes, 3, 1)
	if !slices.Equal(nodes, []string{"a", "b", "d"}) {
		t.Errorf("written: %v", nodes)
	}
	copy(nodes, []string{"q", "r", "s"})
	begins(t, w.Put(0, "object"))
	flies(t, "looks", w, looks("c0", 0))
	all(w)
	begins(t, w.Change(next))
	if !slices.Equal(next, []string{"e", "f", "g"}) {
		t.Errorf("written: %v", next)
	}
	clear(next)
	all(w)
	begins(t, w.Get(1))
	flies(t, "looks", w, looksAt("c1", preferred(t, []string{"e", "f", "g"}, 3), 2, 1))
	all(w)
	if e := w.Events(); len(e) != 2 || e[1].Text != "object" {
		t.Errorf("events %v", e)
	}
	for _, node := range []string{"a", "b", "d", "e", "f", "g"} {
		begins(t, w.Down(node))
	}
	fails(t, "what it was changed to", w, api.ErrNone, func() error { return w.Down("q") })
}

// P4: what was answered is changed behind each step.
func TestWhatIsWrittenIntoAnAnswerDoesNotShow(t *testing.T) {
	l := script(49, 600)
	want := played(t, l)
	w := made(t, []string{"a", "b", "d", "e", "f"}, 3, 2)
	for i, x := range l {
		x.call(worldlyOf(w))
		showsAs(t, x.name, w, want[i])
		events, flying := w.Events(), w.Flying()
		for at := range flying {
			m := &flying[at]
			for j := range m.L {
				m.L[j] = api.Version{Tag: api.Tag{N: 99}, Size: 1, S: api.Shard{At: 2, Text: "z"}}
			}
			_ = append(m.L, api.Version{Size: 7})
			*m = wire.Message{From: "gone", To: "mover", Kind: "sealed", Sealed: true}
		}
		clear(events)
		_, _ = append(events, world.Event{Who: 9}), append(flying, wire.Message{})
	}
}

// P4: messages of one answer share no list, though they are doubled.
func TestMessagesOfOneAnswerShareNothing(t *testing.T) {
	w := three(t)
	begins(t, w.Put(0, "object"))
	deliver(t, w, 6)
	begins(t, w.Twice(0))
	begins(t, w.Twice(1))
	l, want := w.Flying(), w.Flying()
	if len(l) != 5 || len(l[2].L) != 1 {
		t.Fatalf("flies %v: of no use", l)
	}
	for i := range l {
		for at := i; at < len(l); at++ {
			if !same(l[at], want[at]) {
				t.Fatalf("what was written into %d shows in %d", i-1, at)
			}
		}
		l[i].L[0] = api.Version{}
		_ = append(l[i].L, api.Version{Size: 1})
	}
}

// overlap tells whether two texts share memory.
func overlap(a, b string) bool {
	if a == "" || b == "" {
		return false
	}
	atA, atB := uintptr(unsafe.Pointer(unsafe.StringData(a))), uintptr(unsafe.Pointer(unsafe.StringData(b)))
	return atA < atB+uintptr(len(b)) && atB < atA+uintptr(len(a))
}

// P4
func TestTextsOfAnswersAreNewMemory(t *testing.T) {
	in := []string{"node-a", "node-b", "node-d", "an object"}
	w := made(t, in[:3], 3, 1)
	begins(t, w.Put(0, in[3]))
	all(w)
	begins(t, w.Get(1))
	all(w)
	begins(t, w.Put(2, in[3]))
	deliver(t, w, 6)
	begins(t, w.Twice(2))
	var out []string
	for range 2 {
		for _, e := range w.Events() {
			out = append(out, e.Text)
		}
		for _, m := range w.Flying() {
			out = append(out, m.From, m.To, m.Key, m.Kind)
			for _, v := range m.L {
				out = append(out, v.S.Text)
			}
		}
	}
	for i, x := range out {
		for _, y := range slices.Concat(in, out[i+1:]) {
			if overlap(x, y) {
				t.Errorf("%q and %q share memory", x, y)
			}
		}
	}
}

// P4: texts whose bytes are changed later, as no text's are by the language's own means; also where a client begins anew.
func TestTextsAreNotKept(t *testing.T) {
	var handed [][]byte
	text := func(s string) string {
		bytes := []byte(s)
		handed = append(handed, bytes)
		return unsafe.String(&bytes[0], len(bytes))
	}
	spoil := func() {
		for _, bytes := range handed {
			clear(bytes)
		}
	}
	w := made(t, []string{text("a"), text("b"), text("d")}, 3, 1)
	spoil()
	begins(t, w.Put(0, text("an object")))
	spoil()
	begins(t, w.Change([]string{text("e"), text("f"), text("g")}))
	spoil()
	only(w, between("mover"))
	all(w)
	e := w.Events()
	if len(e) != 1 || e[0].Text != "an object" {
		t.Fatalf("events %v", e)
	}
	for _, node := range []string{"a", "b", "d", "e", "f", "g"} {
		begins(t, w.Down(text(node)))
		spoil()
	}
	begins(t, w.Get(1))
	flies(t, "members", w, looksAt("c1", preferred(t, []string{"e", "f", "g"}, 3), 3, 1))
}
