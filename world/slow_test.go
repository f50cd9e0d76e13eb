package world_test

import (
	"errors"
	"math/rand/v2"
	"slices"
	"strconv"
	"testing"

	"shardkeep/api"
	"shardkeep/ask"
	"shardkeep/carry"
	"shardkeep/ring"
	"shardkeep/serve"
	"shardkeep/wire"
	"shardkeep/world"
)

// beginning of a client, or, with who -1, of the mover: its place in the list is its Op.
type beginning struct {
	who    int
	put    bool
	text   string
	from   int
	config int
	ask    *ask.Ask
	carry  *carry.Carry
}

// slow is a world as the document's words say it: it forgets nothing.
type slow struct {
	t        *testing.T
	n, k     int
	nodes    map[string]*serve.Member
	down     map[string]bool
	configs  []api.Config
	active   int
	begun    []*beginning
	flying   []wire.Message
	delivers int
	events   []world.Event
}

func newSlow(t *testing.T, nodes []string, n, k int) *slow {
	t.Helper()
	s := &slow{t: t, n: n, k: k, nodes: map[string]*serve.Member{}, down: map[string]bool{}}
	s.configure(nodes)
	return s
}

// configure has a next configuration, and those nodes in the world that are new.
func (s *slow) configure(nodes []string) {
	s.t.Helper()
	s.configs = append(s.configs, api.Config{N: s.n, K: s.k, Members: preferred(s.t, nodes, s.n)})
	for _, node := range nodes {
		if s.nodes[node] == nil {
			m, err := serve.New(node)
			if err != nil {
				s.t.Fatal(err)
			}
			s.nodes[node] = m
		}
	}
}

// last beginning of a client, or of the mover: nil, if there is none.
func (s *slow) last(who int) *beginning {
	for i := len(s.begun) - 1; i >= 0; i-- {
		if s.begun[i].who == who {
			return s.begun[i]
		}
	}
	return nil
}

func (s *slow) state(who int) string {
	b := s.last(who)
	if who < 0 || b == nil || b.ask.State() == "done" {
		return "idle"
	}
	return b.ask.State()
}

func (s *slow) moves() bool {
	b := s.last(-1)
	return b != nil && b.carry.State() != "done"
}

func (s *slow) send(l []wire.Message) {
	for _, m := range l {
		if len(s.flying) < api.MaxFlying {
			s.flying = append(s.flying, m)
		}
	}
}

func (s *slow) begin(b beginning) {
	s.t.Helper()
	var err error
	op := len(s.begun)
	b.config = s.active
	if b.put {
		b.ask, err = ask.Put(b.who, op, s.configs[s.active], s.active, "x", b.text)
	} else {
		b.ask, err = ask.Get(b.who, op, s.configs[s.active], s.active, "x")
	}
	if err != nil {
		s.t.Fatal(err)
	}
	s.begun = append(s.begun, &b)
	s.send(b.ask.Begin())
}

func (s *slow) client(who int, put bool, text string) error {
	s.t.Helper()
	if who < 0 || who > 5 || len(text) > 1000 {
		return api.ErrBound
	}
	if s.state(who) != "idle" {
		return api.ErrHeld
	}
	s.begin(beginning{who: who, put: put, text: text, from: s.delivers})
	return nil
}

func (s *slow) deliver(at int) error {
	s.t.Helper()
	if at < 0 || at >= len(s.flying) {
		return api.ErrNone
	}
	m := s.flying[at]
	s.flying = slices.Concat(s.flying[:at], s.flying[at+1:])
	s.delivers++
	if m.To == "mover" {
		b := s.last(-1)
		s.send(b.carry.Hear(m))
		if b.carry.State() == "done" {
			s.active = b.config + 1
		}
		return nil
	}
	if node := s.nodes[m.To]; node != nil {
		if !s.down[m.To] {
			s.send(node.Hear(m))
		}
		return nil
	}
	who, err := strconv.Atoi(m.To[1:])
	if err != nil {
		s.t.Fatal(err)
	}
	b := s.last(who)
	was := b.ask.State()
	s.send(b.ask.Hear(m))
	if was != "done" && b.ask.State() == "done" {
		tag, text, found := b.ask.Answer()
		s.events = append(s.events, world.Event{Who: who, Put: b.put, Found: found, Tag: tag, Text: text, From: b.from, To: s.delivers})
	}
	if b.ask.State() == "refused" && s.active > b.config {
		s.begin(*b)
	}
	return nil
}

func (s *slow) drop(at int) error {
	if at < 0 || at >= len(s.flying) {
		return api.ErrNone
	}
	s.flying = slices.Concat(s.flying[:at], s.flying[at+1:])
	return nil
}

func (s *slow) twice(at int) error {
	if at < 0 || at >= len(s.flying) {
		return api.ErrNone
	}
	if len(s.flying) >= 120 {
		return api.ErrFull
	}
	s.flying = slices.Concat(s.flying[:at+1], s.flying[at:])
	return nil
}

func (s *slow) turn(node string, down bool) error {
	if s.nodes[node] == nil {
		return api.ErrNone
	}
	s.down[node] = down
	return nil
}

func (s *slow) again(who int) error {
	if who < 0 || who > 5 {
		return api.ErrBound
	}
	if s.state(who) != "looking" {
		return api.ErrNone
	}
	s.send(s.last(who).ask.Begin())
	return nil
}

func (s *slow) retry(who int) error {
	if who < 0 || who > 5 {
		return api.ErrBound
	}
	if s.state(who) != "refused" {
		return api.ErrNone
	}
	if s.last(who).config == s.active {
		return api.ErrOld
	}
	s.begin(*s.last(who))
	return nil
}

func (s *slow) change(nodes []string) error {
	s.t.Helper()
	if s.moves() {
		return api.ErrHeld
	}
	if len(s.configs) >= 12 {
		return api.ErrFull
	}
	if err := ring.Check(nodes); err != nil {
		return err
	}
	for i, node := range nodes {
		if slices.Contains([]string{"c0", "c1", "c2", "c3", "c4", "c5", "mover"}, node) {
			return &api.Fault{At: i, Err: api.ErrExist}
		}
	}
	if len(nodes) < s.n {
		return api.ErrFew
	}
	count := len(s.nodes)
	for _, node := range nodes {
		if s.nodes[node] == nil {
			count++
		}
	}
	if count > 16 {
		return api.ErrFull
	}
	s.configure(nodes)
	c, err := carry.New(len(s.begun), s.configs[s.active], s.configs[s.active+1], s.active, "x")
	if err != nil {
		s.t.Fatal(err)
	}
	s.begun = append(s.begun, &beginning{who: -1, config: s.active, carry: c})
	s.send(c.Begin())
	return nil
}

func (s *slow) show() shown {
	x := shown{events: s.events, flying: s.flying, all: len(s.configs), active: s.active}
	for who := -1; who <= 6; who++ {
		x.states = append(x.states, s.state(who))
	}
	return x
}

// worldly is what a world takes: a slow one does, too.
type worldly struct {
	put           func(who int, text string) error
	get           func(who int) error
	deliver, drop func(at int) error
	twice         func(at int) error
	down, up      func(node string) error
	again, retry  func(who int) error
	change        func(nodes []string) error
}

func worldlyOf(w *world.World) worldly {
	return worldly{w.Put, w.Get, w.Deliver, w.Drop, w.Twice, w.Down, w.Up, w.Again, w.Retry, w.Change}
}

func (s *slow) worldly() worldly {
	return worldly{
		put:     func(who int, text string) error { return s.client(who, true, text) },
		get:     func(who int) error { return s.client(who, false, "") },
		deliver: s.deliver, drop: s.drop, twice: s.twice,
		down:  func(node string) error { return s.turn(node, true) },
		up:    func(node string) error { return s.turn(node, false) },
		again: s.again, retry: s.retry, change: s.change,
	}
}

// step is one call, and its name.
type step struct {
	name string
	call func(x worldly) error
}

// odds say how often, of a hundred, each kind of step comes; all else are Delivers. Wrong ones may be drawn, too.
type odds struct {
	begin, drop, twice, turn, again, retry, change int
	wrong                                          bool
}

// pool are nodes that may come: wrong names among them, if they may be drawn.
func pool(wrong bool) []string {
	l := []string{"a", "b", "d", "e", "f", "g", "h", "i", "j", "k"}
	if wrong {
		l = append(l, "l", "m", "n", "o", "p", "q", "r", "s", "c0", "c5", "mover", "Q", "")
	}
	return l
}

func (o odds) number(r *rand.Rand, count int) int {
	if o.wrong && r.IntN(10) == 0 {
		return []int{-1, count, count + 1, -count}[r.IntN(4)]
	}
	return r.IntN(max(1, count))
}

func (o odds) nodes(r *rand.Rand, n int) []string {
	names := pool(o.wrong && r.IntN(3) == 0)
	r.Shuffle(len(names), func(i, j int) { names[i], names[j] = names[j], names[i] })
	count := min(n+r.IntN(4), len(names))
	if o.wrong && r.IntN(8) == 0 {
		count = r.IntN(n)
	}
	return names[:count]
}

// draw a step of a world of which so many messages fly; text is that of a Put.
func (o odds) draw(r *rand.Rand, n, flying int, text string) step {
	who, at := o.number(r, api.MaxClients), o.number(r, flying)
	if r.IntN(2) == 0 {
		at = min(at, 0)
	}
	name := pool(o.wrong)[r.IntN(len(pool(o.wrong)))]
	nodes := o.nodes(r, n)
	if o.wrong && r.IntN(10) == 0 {
		text = string(make([]byte, api.MaxText+r.IntN(2)))
	}
	steps := []struct {
		odds int
		step
	}{
		{o.begin / 2, step{"Put " + strconv.Itoa(who), func(x worldly) error { return x.put(who, text) }}},
		{o.begin - o.begin/2, step{"Get " + strconv.Itoa(who), func(x worldly) error { return x.get(who) }}},
		{o.drop, step{"Drop " + strconv.Itoa(at), func(x worldly) error { return x.drop(at) }}},
		{o.twice, step{"Twice " + strconv.Itoa(at), func(x worldly) error { return x.twice(at) }}},
		{o.turn / 2, step{"Down " + name, func(x worldly) error { return x.down(name) }}},
		{o.turn - o.turn/2, step{"Up " + name, func(x worldly) error { return x.up(name) }}},
		{o.again, step{"Again " + strconv.Itoa(who), func(x worldly) error { return x.again(who) }}},
		{o.retry, step{"Retry " + strconv.Itoa(who), func(x worldly) error { return x.retry(who) }}},
		{o.change, step{"Change", func(x worldly) error { return x.change(nodes) }}},
	}
	drawn := r.IntN(100)
	for _, x := range steps {
		if drawn < x.odds {
			return x.step
		}
		drawn -= x.odds
	}
	return step{"Deliver " + strconv.Itoa(at), func(x worldly) error { return x.deliver(at) }}
}

// sameError holds errors against each other, with their places.
func sameError(a, b error) bool {
	var x, y *api.Fault
	if errors.As(a, &x) && errors.As(b, &y) {
		return *x == *y
	}
	return a == b
}

// bare is an error without its place.
func bare(err error) error {
	if inner := errors.Unwrap(err); inner != nil {
		return inner
	}
	return err
}

// P120 to P123: of many worlds, behind each step, right or wrong, all that shows is as the document's words say it.
func TestMixtures(t *testing.T) {
	r := rand.New(rand.NewPCG(12, 123))
	told := map[error]int{}
	events, moves, anew, full := 0, 0, 0, 0
	for i := range 500 {
		n := 1 + r.IntN(5)
		k := 1 + r.IntN(n)
		o := odds{begin: 8, drop: 1 + r.IntN(2), twice: 2, turn: r.IntN(3), again: 4, retry: 3, change: 3, wrong: true}
		if i%5 == 0 {
			o.twice, o.again = 30, 20
		}
		nodes := odds{}.nodes(r, n)
		w, s := made(t, nodes, n, k), newSlow(t, nodes, n, k)
		for at := range 300 {
			x := o.draw(r, n, len(s.flying), "t"+strconv.Itoa(at))
			got, want := x.call(worldlyOf(w)), x.call(s.worldly())
			if !sameError(got, want) {
				t.Fatalf("world %d, step %d, %s: told %v, want %v", i, at, x.name, got, want)
			}
			showsAs(t, x.name, w, s.show())
			told[bare(want)]++
			if len(s.flying) == api.MaxFlying {
				full++
			}
		}
		events += len(s.events)
		moves += s.active
		for _, b := range s.begun {
			if b.ask != nil && b.config > 0 && b.ask.State() == "done" && slices.ContainsFunc(s.begun, func(c *beginning) bool {
				return c.ask != nil && c.who == b.who && c.from == b.from && c.config < b.config && c.ask.State() == "refused"
			}) {
				anew++
			}
		}
	}
	for _, err := range []error{nil, api.ErrBound, api.ErrName, api.ErrNone, api.ErrExist, api.ErrFull, api.ErrFew, api.ErrOld, api.ErrHeld} {
		if told[err] < 20 {
			t.Errorf("%v: %d times: the mixtures are of no use", err, told[err])
		}
	}
	if events < 2000 || moves < 300 || anew < 50 || full < 500 {
		t.Errorf("%d events, %d moves, %d anew, %d steps with all full: the mixtures are of no use", events, moves, anew, full)
	}
}
