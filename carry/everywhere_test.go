package carry_test

import (
	"math"
	"slices"
	"strings"
	"sync"
	"testing"
	"unsafe"

	"shardkeep/api"
	"shardkeep/carry"
	"shardkeep/plain"
	"shardkeep/wire"
)

// outcome is all that a carry told.
type outcome struct {
	sent   [][]wire.Message
	states []string
	tag    api.Tag
	text   string
	found  bool
}

func (o outcome) same(p outcome) bool {
	return slices.EqualFunc(o.sent, p.sent, func(a, b []wire.Message) bool { return slices.EqualFunc(a, b, same) }) &&
		slices.Equal(o.states, p.states) && o.tag == p.tag && o.text == p.text && o.found == p.found
}

// played has a carry hear messages.
func played(c *carry.Carry, heard []wire.Message) outcome {
	var o outcome
	o.sent = append(o.sent, c.Begin())
	for _, m := range heard {
		o.sent = append(o.sent, c.Hear(m), c.Begin())
		o.states = append(o.states, c.State())
	}
	o.tag, o.text, o.found = c.Answer()
	return o
}

// heard is what a carry hears until it is done.
func heard(t *testing.T, g given) []wire.Message {
	t.Helper()
	var l []wire.Message
	for i, v := range versions(t, g.from, api.Tag{N: 3, Who: 1}, "what was put") {
		other := versions(t, g.from, api.Tag{N: 2, Who: 4}, "older")[i]
		l = append(l, g.sealed(g.from.Members[i], other, v))
	}
	slices.Reverse(l)
	for _, member := range g.to.Members {
		l = append(l, g.kept(member))
	}
	return l
}

// wanted is what the ordinary carry tells of those.
func wanted(t *testing.T, g given, messages []wire.Message) outcome {
	t.Helper()
	want := played(begun(t, g), messages)
	if want.tag != (api.Tag{N: 3, Who: 1}) || want.text != "what was put" || !want.found {
		t.Fatalf("told %v: of no use", want)
	}
	return want
}

// P1: that the test ends is what it asks.
func TestEveryCallEnds(t *testing.T) {
	long := strings.Repeat("\xff\x00", 1<<12)
	numbers := []int{math.MinInt, -1, 0, 1, 5, 7, math.MaxInt - 1, math.MaxInt}
	configs := []api.Config{{}, {N: 1, K: 1, Members: []string{"a"}}, old(3, 2), next(2, 12, 12), {N: 3, K: 2, Members: make([]string, 1<<12)}}
	for _, n := range numbers {
		configs = append(configs, api.Config{N: n, K: n}, api.Config{N: n, K: 1, Members: named(0, max(0, min(n, 20)))})
	}
	var messages []wire.Message
	for _, n := range numbers {
		v := api.Version{Tag: api.Tag{N: n, Who: n}, Size: n, S: api.Shard{At: n, Text: long[:max(0, min(n, 100))]}}
		for _, kind := range []string{"", "sealed", "kept", long} {
			for _, from := range []string{"", "a", named(0, 1)[0], long} {
				messages = append(messages, wire.Message{From: from, To: "mover", Kind: kind, Key: "a", L: []api.Version{v, v, {}}},
					wire.Message{From: from, To: "mover", Kind: kind, Key: "a", Config: 1},
					wire.Message{From: from, To: long, Kind: kind, Key: long, Op: n, Config: n, Sealed: true, L: make([]api.Version, 100)})
			}
		}
	}
	for _, from := range configs {
		for _, to := range configs {
			for _, n := range numbers {
				for _, key := range []string{"", "a", long} {
					for _, g := range []given{{0, from, to, 0, key}, {n, from, to, n, key}} {
						c, _ := g.carry()
						played(c, messages[:min(len(messages), 60)])
					}
				}
			}
			c, _ := given{0, from, to, 0, "a"}.carry()
			played(c, messages)
		}
	}
}

// P1, P3: what New answers beside an error takes calls, too.
func TestACarryThatIsNone(t *testing.T) {
	g := ordinary()
	g.op = -1
	c, err := g.carry()
	if c != nil || err != api.ErrBound {
		t.Fatalf("told %v, %v", c, err)
	}
	sent(t, "Begin", c.Begin(), nil)
	sent(t, "Hear", c.Hear(g.sealed(g.from.Members[0])), nil)
	stands(t, "State", c, "")
}

// P1: very much that is told.
func TestVeryMuchIsTold(t *testing.T) {
	g := ordinary()
	all := versions(t, g.from, api.Tag{N: 100000}, "the newest")
	c := begun(t, g)
	for i, member := range g.from.Members[:4] {
		var l []api.Version
		for n := range 100000 {
			l = append(l, api.Version{Tag: api.Tag{N: n}, Size: n, S: api.Shard{At: n % 5, Text: "x"}})
		}
		l = append(l, all[i])
		out := c.Hear(g.sealed(member, l...))
		if i == 3 {
			sent(t, "keep", out, g.keeps(t, api.Tag{N: 100000}, "the newest"))
		}
	}
}

// P2: many at the same time, of the same configurations and messages.
func TestAnswersHangOnNothingElse(t *testing.T) {
	g := ordinary()
	messages := heard(t, g)
	want := wanted(t, g, messages)
	var got [16]outcome
	var wait sync.WaitGroup
	for i := range got {
		wait.Go(func() {
			c, _ := g.carry()
			other, _ := carry.New(i, g.to, g.from, i, g.key)
			played(other, messages)
			got[i] = played(c, messages)
		})
	}
	wait.Wait()
	for i, x := range got {
		if !x.same(want) {
			t.Errorf("worker %d was told otherwise", i)
		}
	}
}

// P2: carries by turns know nothing of each other.
func TestCarriesByTurns(t *testing.T) {
	g := ordinary()
	messages := heard(t, g)
	want := wanted(t, g, messages)
	both := []*carry.Carry{begun(t, g), begun(t, g)}
	refused := keeping(t, g)
	var got [2]outcome
	for at, c := range both {
		got[at].sent = append(got[at].sent, c.Begin())
	}
	for _, m := range messages {
		for at, c := range both {
			got[at].sent = append(got[at].sent, c.Hear(m), c.Begin())
			got[at].states = append(got[at].states, c.State())
		}
		refused.Hear(withSealed(m))
	}
	for at, c := range both {
		got[at].tag, got[at].text, got[at].found = c.Answer()
		if !got[at].same(want) {
			t.Errorf("%d: told %v, want %v", at, got[at], want)
		}
	}
	stands(t, "refused", refused, "refused")
}

// P3, P5: errors by their numbers, bare but where a place is told; of several the one that is named first.
func TestErrorsByNumbers(t *testing.T) {
	all := given{op: -1, from: api.Config{N: 3, K: 4}, to: api.Config{N: 2, K: 3}, config: math.MaxInt, key: ""}
	for _, x := range []struct {
		name     string
		mend     func(g *given)
		code, at int
	}{
		{"N and K of from", func(*given) {}, 2, -1},
		{"members of from", func(g *given) { g.from.K = 2 }, 3, -1},
		{"names of from", func(g *given) { g.from.Members = []string{"a", "a", ""} }, 6, 1},
		{"a name of from", func(g *given) { g.from.Members = []string{"a", "b", ""} }, 4, 2},
		{"N and K of to", func(g *given) { g.from.Members = named(0, 3) }, 2, -1},
		{"members of to", func(g *given) { g.to.K = 2 }, 3, -1},
		{"names of to", func(g *given) { g.to.Members = []string{"a", "a"} }, 6, 1},
		{"a name of to", func(g *given) { g.to.Members = []string{"", "a"} }, 4, 0},
		{"key", func(g *given) { g.to.Members = named(0, 2) }, 4, -1},
		{"op", func(g *given) { g.key = "k" }, 2, -1},
		{"config", func(g *given) { g.op = 0 }, 2, -1},
	} {
		x.mend(&all)
		_, err := all.carry()
		if code, at := plain.Code(err); code != x.code || at != x.at {
			t.Errorf("%s: %d at %d, want %d at %d", x.name, code, at, x.code, x.at)
		}
	}
	all.config--
	if c, err := all.carry(); c == nil || err != nil {
		t.Errorf("told %v", err)
	}
}

// P3: what lies behind a length is neither read nor written.
func TestBehindLengths(t *testing.T) {
	g := ordinary()
	messages := heard(t, g)
	want := wanted(t, g, messages)
	from, to := append(slices.Clone(g.from.Members), "more", "more"), append(slices.Clone(g.to.Members), "more", "more")
	g.from.Members, g.to.Members = from[:5], to[:4]
	behind := api.Version{Tag: api.Tag{N: 50}, Size: 1, S: api.Shard{Text: "x"}}
	var lists [][]api.Version
	for i, m := range messages {
		l := append(slices.Clone(m.L), behind, behind)
		lists = append(lists, l)
		messages[i].L = l[:len(m.L)]
	}
	if got := played(begun(t, g), messages); !got.same(want) {
		t.Errorf("told %v, want %v", got, want)
	}
	if !slices.Equal(from[5:], []string{"more", "more"}) || !slices.Equal(to[4:], []string{"more", "more"}) {
		t.Error("written behind members")
	}
	for _, l := range lists {
		if l[len(l)-1] != behind || l[len(l)-2] != behind {
			t.Error("written behind a list")
		}
	}
}

// P4: what was handed over is changed behind each call.
func TestWhatIsHandedOverIsOnlyReadAndNotKept(t *testing.T) {
	g := ordinary()
	messages := heard(t, g)
	want := wanted(t, g, messages)
	own := g
	own.from.Members, own.to.Members = slices.Clone(g.from.Members), slices.Clone(g.to.Members)
	c := begun(t, own)
	if !slices.Equal(own.from.Members, g.from.Members) || !slices.Equal(own.to.Members, g.to.Members) {
		t.Error("written into members")
	}
	for _, members := range [][]string{own.from.Members, own.to.Members} {
		slices.Reverse(members)
		members[0] = "gone"
	}
	got := outcome{sent: [][]wire.Message{c.Begin()}}
	for _, m := range messages {
		mine := m
		mine.L = slices.Clone(m.L)
		got.sent = append(got.sent, c.Hear(mine), c.Begin())
		got.states = append(got.states, c.State())
		if !same(mine, m) {
			t.Errorf("written into %v", m)
		}
		for i := range mine.L {
			mine.L[i] = api.Version{Tag: api.Tag{N: 99, Who: 99}, Size: 1, S: api.Shard{At: 1, Text: "z"}}
		}
	}
	got.tag, got.text, got.found = c.Answer()
	if !got.same(want) {
		t.Errorf("a later change shows: %v, want %v", got, want)
	}
}

// P4: what was answered is changed behind each call.
func TestWhatIsWrittenIntoAnAnswerDoesNotShow(t *testing.T) {
	g := ordinary()
	messages := heard(t, g)
	want := wanted(t, g, messages)
	c := begun(t, g)
	var got outcome
	// spoilt keeps what was sent, and then writes into it.
	spoilt := func(l []wire.Message) {
		var copies []wire.Message
		for i, m := range l {
			m.L = slices.Clone(m.L)
			copies = append(copies, m)
			for j := range l[i].L {
				l[i].L[j] = api.Version{}
			}
			_ = append(l[i].L, api.Version{Size: 7})
			l[i] = wire.Message{From: "gone", To: "gone", Sealed: true}
		}
		_ = append(l, wire.Message{})
		got.sent = append(got.sent, copies)
	}
	spoilt(c.Begin())
	for _, m := range messages {
		spoilt(c.Hear(m))
		spoilt(c.Begin())
		got.states = append(got.states, c.State())
	}
	got.tag, got.text, got.found = c.Answer()
	if !got.same(want) {
		t.Errorf("what was written shows: %v, want %v", got, want)
	}
}

// P4: what is written into one message does not show in another one of the same answer.
func TestMessagesOfOneAnswerShareNothing(t *testing.T) {
	g := ordinary()
	c := begun(t, g)
	l, want := g.hearSealed(t, c, split(versions(t, g.from, tag, "an object"))...), g.keeps(t, tag, "an object")
	for i := range l {
		sent(t, "left", l[i:], want[i:])
		l[i].L[0] = api.Version{}
		_ = append(l[i].L, api.Version{Size: 1})
		_ = append(l[i].L, api.Version{Size: 2})
	}
}

// overlap tells whether two texts share memory.
func overlap(a, b string) bool {
	if a == "" || b == "" {
		return false
	}
	atA, atB := uintptr(unsafe.Pointer(unsafe.StringData(a))), uintptr(unsafe.Pointer(unsafe.StringData(b)))
	return atA < atB+uintptr(len(b)) && atB < atA+uintptr(len(a))
}

// P4
func TestTextsOfAnswersAreNewMemory(t *testing.T) {
	g := ordinary()
	messages := heard(t, g)
	c := begun(t, g)
	o := played(c, messages)
	_, again, _ := c.Answer()
	in := append(slices.Concat(g.from.Members, g.to.Members), g.key)
	for _, m := range messages {
		in = append(in, m.From, m.To, m.Key)
		for _, v := range m.L {
			in = append(in, v.S.Text)
		}
	}
	out := []string{o.text, again}
	for _, m := range slices.Concat(o.sent...) {
		out = append(out, m.From, m.To, m.Key)
		for _, v := range m.L {
			out = append(out, v.S.Text)
		}
	}
	for i, x := range out {
		for _, y := range slices.Concat(in, out[i+1:]) {
			if overlap(x, y) {
				t.Errorf("%q and %q share memory", x, y)
			}
		}
	}
}

// P4: texts whose bytes are changed later, as no text's are by the language's own means.
func TestTextsAreNotKept(t *testing.T) {
	g := ordinary()
	messages := heard(t, g)
	want := wanted(t, g, messages)
	var all [][]byte
	text := func(s string) string {
		bytes := []byte(s)
		all = append(all, bytes)
		return unsafe.String(&bytes[0], len(bytes))
	}
	texts := func(l []string) []string {
		var own []string
		for _, s := range l {
			own = append(own, text(s))
		}
		return own
	}
	spoil := func() {
		for _, bytes := range all {
			clear(bytes)
		}
	}
	own := g
	own.key, own.from.Members, own.to.Members = text(g.key), texts(g.from.Members), texts(g.to.Members)
	c := begun(t, own)
	spoil()
	got := outcome{sent: [][]wire.Message{c.Begin()}}
	for _, m := range messages {
		mine := wire.Message{From: text(m.From), To: text(m.To), Kind: text(m.Kind), Key: text(m.Key), Op: m.Op, Config: m.Config}
		for _, v := range m.L {
			v.S.Text = text(v.S.Text)
			mine.L = append(mine.L, v)
		}
		l := c.Hear(mine)
		spoil()
		got.sent = append(got.sent, l, c.Begin())
		got.states = append(got.states, c.State())
	}
	got.tag, got.text, got.found = c.Answer()
	if !got.same(want) {
		t.Errorf("a later change shows: %v, want %v", got, want)
	}
}
