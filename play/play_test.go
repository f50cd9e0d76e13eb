package play_test

import (
	"fmt"
	"math"
	"slices"
	"strconv"
	"testing"

	"shardkeep/api"
	"shardkeep/play"
	"shardkeep/wire"
	"shardkeep/world"
)

// five nodes, in an order that is neither that of their names nor that of the ring.
func five() []string { return []string{"e", "a", "d", "f", "b"} }

// made has a world that must be there.
func made(t *testing.T, nodes []string, n, k int) *world.World {
	t.Helper()
	w, err := world.New(nodes, n, k)
	if w == nil || err != nil {
		t.Fatalf("no world: %v", err)
	}
	return w
}

// show is all that a world tells of itself, but its nodes.
func show(w *world.World) string {
	text := fmt.Sprint(w.Events(), w.Flying())
	for who := range api.MaxClients {
		text += " " + w.State(who)
	}
	all, active := w.Configs()
	return fmt.Sprint(text, all, active)
}

// plays asks how many steps are taken.
func plays(t *testing.T, name string, w *world.World, want int, script ...int) {
	t.Helper()
	if got := play.Play(w, script); got != want {
		t.Fatalf("%s: Play = %d, want %d", name, got, want)
	}
}

func alike(t *testing.T, name string, w, twin *world.World) {
	t.Helper()
	if got, want := show(w), show(twin); got != want {
		t.Fatalf("%s: shows\n%s\nwant\n%s", name, got, want)
	}
}

func begins(t *testing.T, err error) {
	t.Helper()
	if err != nil {
		t.Fatalf("told %v", err)
	}
}

// all has everything delivered, the first first.
func all(w *world.World) {
	for w.Deliver(0) == nil {
	}
}

// only delivers those of which this is so, until none is left.
func only(t *testing.T, w *world.World, is func(m wire.Message) bool) {
	t.Helper()
	for {
		at := slices.IndexFunc(w.Flying(), is)
		if at < 0 {
			return
		}
		begins(t, w.Deliver(at))
	}
}

// hearing tells which members of the active configuration are up, by name: those that answer a client that gets.
func hearing(t *testing.T, w *world.World, who int) []string {
	t.Helper()
	begins(t, w.Get(who))
	name := "c" + strconv.Itoa(who)
	only(t, w, func(m wire.Message) bool { return m.From == name })
	var l []string
	for _, m := range w.Flying() {
		if m.To == name {
			l = append(l, m.From)
		}
	}
	slices.Sort(l)
	return l
}

// without has names in order, but one.
func without(l []string, name string) []string {
	l = slices.DeleteFunc(slices.Clone(l), func(x string) bool { return x == name })
	slices.Sort(l)
	return l
}

// flying is a world in which so many messages fly, at most 30, no two of which are the same.
func flying(t *testing.T, count int) *world.World {
	t.Helper()
	w := made(t, five(), 5, 2)
	for who := range api.MaxClients {
		begins(t, w.Put(who, "text of "+strconv.Itoa(who)))
	}
	for len(w.Flying()) > count {
		begins(t, w.Drop(len(w.Flying())-1))
	}
	if len(w.Flying()) != count {
		t.Fatalf("%d fly, not %d: of no use", len(w.Flying()), count)
	}
	return w
}

// full is a world in which no more may fly.
func full(t *testing.T) *world.World {
	t.Helper()
	w := flying(t, 30)
	for w.Twice(0) == nil {
	}
	if len(w.Flying()) != api.MaxFlying {
		t.Fatal("of no use")
	}
	return w
}

// kinds of steps that are of messages, by their digits.
func kinds(w *world.World) []func(at int) error {
	return []func(at int) error{w.Deliver, w.Deliver, w.Deliver, w.Deliver, w.Drop, w.Twice}
}

// P140: step by step, with all numbers spelt out.
func TestPlaySpeltOut(t *testing.T) {
	w := made(t, []string{"a", "b", "d"}, 3, 1)
	plays(t, "client 1 puts", w, 1, 16)
	plays(t, "three look, three tell", w, 6, 0, 1, 2, 3, 0, 1)
	if w.State(1) != "keeping" || len(w.Flying()) != 3 {
		t.Fatalf("%s, %d fly", w.State(1), len(w.Flying()))
	}
	plays(t, "all of it, and one number too many", w, 6, 0, 0, 0, 0, 0, 0, 0)
	plays(t, "client 2 gets", w, 13, 27, 0, 0, 0, 0, 0, 0, 0, 0, 0, 0, 0, 0)
	tag := api.Tag{N: 1, Who: 1}
	want := []world.Event{
		{Who: 1, Put: true, Found: true, Tag: tag, Text: "t1", From: 0, To: 11},
		{Who: 2, Found: true, Tag: tag, Text: "t1", From: 12, To: 23},
	}
	if got := w.Events(); !slices.Equal(got, want) {
		t.Errorf("events %v, want %v", got, want)
	}
}

// P140: 0 to 5: the message of number q, modulo how many fly.
func TestMessages(t *testing.T) {
	for digit := range 6 {
		for _, count := range []int{1, 2, 3, 7, 10, 30} {
			numbers := []int{1000, 99999, math.MaxInt/10 - 1}
			for q := range 2*count + 2 {
				numbers = append(numbers, q)
			}
			for _, q := range numbers {
				name := fmt.Sprintf("digit %d, number %d, %d fly", digit, q, count)
				w, twin := flying(t, count), flying(t, count)
				plays(t, name, w, 1, 10*q+digit)
				begins(t, kinds(twin)[digit](q%count))
				alike(t, name, w, twin)
			}
		}
	}
}

// P140: how many fly is asked ahead of each step.
func TestMessagesThatComeAndGo(t *testing.T) {
	w, twin := flying(t, 3), flying(t, 3)
	plays(t, "dropped", w, 3, 54, 54, 54)
	for _, at := range []int{2, 1, 0} {
		begins(t, twin.Drop(at))
	}
	alike(t, "dropped", w, twin)
	w, twin = flying(t, 3), flying(t, 3)
	plays(t, "doubled, and delivered", w, 4, 75, 75, 71, 64)
	begins(t, twin.Twice(1))
	begins(t, twin.Twice(3))
	begins(t, twin.Deliver(2))
	begins(t, twin.Drop(1))
	alike(t, "doubled, and delivered", w, twin)
}

// P140: where none fly.
func TestNoMessages(t *testing.T) {
	for _, q := range []int{0, 1, 7, 120, math.MaxInt/10 - 1} {
		for digit := range 6 {
			w := made(t, five(), 5, 2)
			plays(t, "none flies", w, 0, 10*q+digit)
			alike(t, "none flies", w, made(t, five(), 5, 2))
		}
	}
	w := flying(t, 2)
	plays(t, "two, and none", w, 2, 4, 4, 4, 0, 5)
}

// P140: an error is not counted: no room for one more; there is room again where one goes.
func TestTwiceWithoutRoom(t *testing.T) {
	w := full(t)
	plays(t, "full", w, 0, 5, 15, 1195, 1205)
	alike(t, "full", w, full(t))
	plays(t, "one goes", w, 2, 5, 4, 5, 5)
}

// P140: 6: the client of number q, modulo MaxClients, with its text.
func TestPut(t *testing.T) {
	for q := range 40 {
		w := made(t, five(), 5, 2)
		plays(t, "Put", w, 1, 10*q+6)
		all(w)
		e := w.Events()
		if len(e) != 1 || e[0].Who != q%6 || !e[0].Put || e[0].Text != "t"+strconv.Itoa(q) {
			t.Errorf("number %d: %v", q, e)
		}
	}
	w := made(t, five(), 5, 2)
	plays(t, "Put", w, 1, 9223372036854775796)
	all(w)
	if e := w.Events(); len(e) != 1 || e[0].Who != 922337203685477579%6 || e[0].Text != "t922337203685477579" {
		t.Errorf("a great number: %v", e)
	}
}

// P140: 7: the client of number q, modulo MaxClients.
func TestGet(t *testing.T) {
	for q := range 40 {
		w := made(t, five(), 5, 2)
		begins(t, w.Put(3, "an object"))
		all(w)
		plays(t, "Get", w, 1, 10*q+7)
		all(w)
		e := w.Events()
		if len(e) != 2 || e[1].Who != q%6 || e[1].Put || e[1].Text != "an object" {
			t.Errorf("number %d: %v", q, e)
		}
	}
	w := made(t, five(), 5, 2)
	plays(t, "Get", w, 1, math.MaxInt)
	if w.State(922337203685477580%6) != "looking" {
		t.Error("a great number")
	}
}

// P140: an error is not counted, and changes nothing: a client that has not ended.
func TestClientsThatHaveNotEnded(t *testing.T) {
	for who := range api.MaxClients {
		for _, digit := range []int{6, 7} {
			w, twin := made(t, five(), 5, 2), made(t, five(), 5, 2)
			plays(t, "begins", w, 1, 10*who+digit)
			plays(t, "begins", twin, 1, 10*who+digit)
			plays(t, "has not ended", w, 0, 10*who+6, 10*who+7, 10*who+66, 10*who+67)
			alike(t, "has not ended", w, twin)
			all(w)
			plays(t, "has ended", w, 1, 10*who+67)
		}
	}
	plays(t, "seven", made(t, five(), 5, 2), 6, 6, 17, 26, 37, 46, 57, 66, 77)
}

// P140: 8 and 9: the node of number q, modulo how many there are, in the order in which they came.
func TestNodes(t *testing.T) {
	for q := range 17 {
		node := five()[q%5]
		w := made(t, five(), 5, 2)
		plays(t, "Down", w, 1, 10*q+8)
		if got, want := hearing(t, w, 0), without(five(), node); !slices.Equal(got, want) {
			t.Errorf("down %d: %v hear, want %v", q, got, want)
		}
		plays(t, "Up", w, 1, 10*q+9)
		if got, want := hearing(t, w, 1), without(five(), ""); !slices.Equal(got, want) {
			t.Errorf("down and up %d: %v hear, want %v", q, got, want)
		}
		plays(t, "all are down, one is up", w, 6, 8, 18, 28, 38, 48, 10*q+9)
		if got := hearing(t, w, 2); !slices.Equal(got, []string{node}) {
			t.Errorf("up %d: %v hear, want %s", q, got, node)
		}
	}
}

// P140: to be as it was already is no error.
func TestNodesThatAreSoAlready(t *testing.T) {
	w := made(t, five(), 5, 2)
	plays(t, "Up", w, 3, 9, 9, 59)
	plays(t, "Down", w, 3, 18, 18, 68)
	if got, want := hearing(t, w, 0), without(five(), "a"); !slices.Equal(got, want) {
		t.Errorf("%v hear, want %v", got, want)
	}
}

// P140: nodes that came later stand behind those that were there, in the order in which they came, whoever is a member.
func TestNodesThatCameLater(t *testing.T) {
	next := []string{"q", "a", "p", "e", "r"}
	came := []string{"e", "a", "d", "f", "b", "q", "p", "r"}
	for q := range 20 {
		node := came[q%8]
		w := made(t, five(), 5, 2)
		begins(t, w.Change(next))
		plays(t, "Down", w, 1, 10*q+8)
		if got, want := hearing(t, w, 0), without(five(), node); !slices.Equal(got, want) {
			t.Errorf("down %d: %v of the old ones hear, want %v", q, got, want)
		}
		only(t, w, func(m wire.Message) bool { return m.From == "mover" || m.To == "mover" })
		if _, active := w.Configs(); active != 1 {
			t.Fatal("of no use")
		}
		if got, want := hearing(t, w, 1), without(next, node); !slices.Equal(got, want) {
			t.Errorf("down %d: %v of the new ones hear, want %v", q, got, want)
		}
	}
}

// P140: numbers below 0, whatever their last digit.
func TestNumbersBelowZero(t *testing.T) {
	w, twin := made(t, five(), 5, 2), made(t, five(), 5, 2)
	begins(t, w.Get(0))
	begins(t, twin.Get(0))
	script := []int{math.MinInt, math.MinInt + 1, -1 << 32, -1 << 31}
	for v := -1; v > -200; v-- {
		script = append(script, v)
	}
	plays(t, "below 0", w, 0, script...)
	alike(t, "below 0", w, twin)
	if got, want := hearing(t, w, 1), without(five(), ""); !slices.Equal(got, want) {
		t.Errorf("%v hear, want %v", got, want)
	}
	plays(t, "between others", w, 2, -1, 26, -6, 37, -7)
}

// P140: numbers beyond MaxSteps are not played; those that are passed over, or have an error, count for it, too.
func TestMaxSteps(t *testing.T) {
	for _, x := range []struct {
		name        string
		ahead, each int
		want        int
		state       string
	}{
		{"the last one", api.MaxSteps - 1, 9, api.MaxSteps, "looking"},
		{"one beyond", api.MaxSteps, 9, api.MaxSteps, "idle"},
		{"far beyond", 40 * api.MaxSteps, 9, api.MaxSteps, "idle"},
		{"below 0, the last one", api.MaxSteps - 1, -1, 1, "looking"},
		{"below 0, one beyond", api.MaxSteps, -1, 0, "idle"},
		{"none flies, the last one", api.MaxSteps - 1, 0, 1, "looking"},
		{"none flies, one beyond", api.MaxSteps, 0, 0, "idle"},
	} {
		w := made(t, five(), 5, 2)
		plays(t, x.name, w, x.want, append(slices.Repeat([]int{x.each}, x.ahead), 6)...)
		if w.State(0) != x.state {
			t.Errorf("%s: client 0 is %s, want %s", x.name, w.State(0), x.state)
		}
	}
	w := made(t, five(), 5, 2)
	plays(t, "each call anew", w, 2, 9, 9)
	plays(t, "each call anew", w, api.MaxSteps, slices.Repeat([]int{9}, api.MaxSteps)...)
	plays(t, "each call anew", w, 1, 6)
}

// P140
func TestNoScript(t *testing.T) {
	w := flying(t, 7)
	plays(t, "nil", w, 0)
	plays(t, "empty", w, 0, []int{}...)
	alike(t, "nothing is played", w, flying(t, 7))
}
