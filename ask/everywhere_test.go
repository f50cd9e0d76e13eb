package ask_test

import (
	"math"
	"slices"
	"strings"
	"sync"
	"testing"
	"unsafe"

	"shardkeep/api"
	"shardkeep/ask"
	"shardkeep/plain"
	"shardkeep/wire"
)

// outcome is all that an ask told.
type outcome struct {
	sent   [][]wire.Message
	states []string
	tag    api.Tag
	text   string
	found  bool
}

func (o outcome) same(p outcome) bool {
	return slices.EqualFunc(o.sent, p.sent, func(a, b []wire.Message) bool { return slices.EqualFunc(a, b, same) }) &&
		slices.Equal(o.states, p.states) && o.tag == p.tag && o.text == p.text && o.found == p.found
}

// played has an ask hear messages.
func played(a *ask.Ask, heard []wire.Message) outcome {
	var o outcome
	o.sent = append(o.sent, a.Begin())
	for _, m := range heard {
		o.sent = append(o.sent, a.Hear(m), a.Begin())
		o.states = append(o.states, a.State())
	}
	o.tag, o.text, o.found = a.Answer()
	return o
}

// heard is what an ask hears until it is done.
func heard(t *testing.T, g given) []wire.Message {
	t.Helper()
	var l []wire.Message
	for i, v := range versions(t, g.c, api.Tag{N: 3, Who: 1}, "what was put") {
		other := versions(t, g.c, api.Tag{N: 2, Who: 4}, "older")[i]
		l = append(l, g.answer(g.c.Members[i], "told", other, v))
	}
	slices.Reverse(l)
	for _, member := range g.c.Members {
		l = append(l, g.answer(member, "kept"))
	}
	return l
}

// P1: that the test ends is what it asks.
func TestEveryCallEnds(t *testing.T) {
	long := strings.Repeat("\xff\x00", 1<<12)
	numbers := []int{math.MinInt, -1, 0, 1, 5, 7, math.MaxInt}
	texts := []string{"", "a", "key", long}
	configs := []api.Config{{}, {N: 1, K: 1, Members: []string{"a"}}, config(3, 2), config(12, 12), {N: 3, K: 2, Members: make([]string, 1<<12)}}
	for _, n := range numbers {
		configs = append(configs, api.Config{N: n, K: n}, api.Config{N: n, K: 1, Members: named(max(0, min(n, 20)))})
	}
	var messages []wire.Message
	for _, n := range numbers {
		v := api.Version{Tag: api.Tag{N: n, Who: n}, Size: n, S: api.Shard{At: n, Text: long[:max(0, min(n, 100))]}}
		for _, kind := range []string{"", "told", "kept", long} {
			for _, from := range []string{"", "a", named(1)[0], long} {
				messages = append(messages, wire.Message{From: from, To: "c0", Kind: kind, Key: "a", L: []api.Version{v, v, {}}},
					wire.Message{From: from, To: long, Kind: kind, Key: long, Op: n, Config: n, Sealed: true, L: make([]api.Version, 100)})
			}
		}
	}
	for _, c := range configs {
		for _, n := range numbers {
			for _, text := range texts {
				for _, g := range []given{{0, 0, c, 0, "a", text}, {n, n, c, n, text, text}, {1, 5, c, n, "key", text}} {
					put, _ := g.put()
					get, _ := g.get()
					played(put, messages)
					played(get, messages)
				}
			}
		}
	}
}

// P1, P3: what Put and Get answer beside an error takes calls, too.
func TestAnAskThatIsNone(t *testing.T) {
	g := ordinary()
	g.who = -1
	a, err := g.put()
	told(t, "who", err, api.ErrBound, -1)
	sent(t, "Begin", a.Begin(), nil)
	sent(t, "Hear", a.Hear(g.answer(g.c.Members[0], "told")), nil)
	stands(t, "State", a, "")
}

// P1: very much that is told.
func TestVeryMuchIsTold(t *testing.T) {
	g := ordinary()
	all := versions(t, g.c, api.Tag{N: 100000}, "the newest")
	both(t, g, func(name string, a *ask.Ask, _ []api.Version) {
		for i, member := range g.c.Members {
			var l []api.Version
			for n := range 100000 {
				l = append(l, api.Version{Tag: api.Tag{N: n}, Size: n, S: api.Shard{At: n % 3, Text: "x"}})
			}
			l = append(l, all[i])
			if out := a.Hear(g.answer(member, "told", l...)); i == 2 && (len(out) != 3 || out[0].L[0].Tag.N < 100000) {
				t.Errorf("%s: sent %v", name, out)
			}
		}
	})
}

// P2: many at the same time, of one configuration and the same messages.
func TestAnswersHangOnNothingElse(t *testing.T) {
	g := five()
	messages := heard(t, g)
	put, err := g.put()
	wantPut := played(begun(t, put, err), messages)
	get, err := g.get()
	wantGet := played(begun(t, get, err), messages)
	if !wantPut.found || wantPut.tag != (api.Tag{N: 4, Who: 2}) || !wantGet.found || wantGet.text != "what was put" {
		t.Fatalf("told %v, %v: of no use", wantPut, wantGet)
	}
	var got [16][2]outcome
	var wait sync.WaitGroup
	for i := range got {
		wait.Go(func() {
			put, _ := g.put()
			get, _ := g.get()
			other, _ := ask.Get(i%api.MaxClients, i, g.c, i, g.key)
			played(other, messages)
			got[i] = [2]outcome{played(put, messages), played(get, messages)}
		})
	}
	wait.Wait()
	for i, x := range got {
		if !x[0].same(wantPut) || !x[1].same(wantGet) {
			t.Errorf("worker %d was told otherwise", i)
		}
	}
}

// P2: asks by turns know nothing of each other.
func TestAsksByTurns(t *testing.T) {
	g := five()
	messages := heard(t, g)
	alone, err := g.get()
	want := played(begun(t, alone, err), messages)
	a, _ := g.get()
	b, _ := g.get()
	refused, _ := g.get()
	var got [2]outcome
	got[0].sent, got[1].sent = append(got[0].sent, a.Begin()), append(got[1].sent, b.Begin())
	for i, m := range messages {
		for at, x := range []*ask.Ask{a, b} {
			got[at].sent = append(got[at].sent, x.Hear(m), x.Begin())
			got[at].states = append(got[at].states, x.State())
		}
		refused.Hear(g.sealed(g.c.Members[i%5], "told"))
	}
	for at, x := range []*ask.Ask{a, b} {
		got[at].tag, got[at].text, got[at].found = x.Answer()
		if !got[at].same(want) {
			t.Errorf("%d: told %v, want %v", at, got[at], want)
		}
	}
	if refused.State() != "refused" {
		t.Error(refused.State())
	}
}

// P3, P5: errors by their numbers, bare but where a place is told; of several the one that is named first.
func TestErrorsByNumbers(t *testing.T) {
	all := given{who: -1, op: -1, c: api.Config{N: 3, K: 4}, config: -1, key: "", text: strings.Repeat("x", 2000)}
	for _, x := range []struct {
		name     string
		mend     func(g *given)
		code, at int
	}{
		{"N and K", func(*given) {}, 2, -1},
		{"members", func(g *given) { g.c.K = 2 }, 3, -1},
		{"names", func(g *given) { g.c.Members = []string{"a", "a", ""} }, 6, 1},
		{"a name", func(g *given) { g.c.Members = []string{"a", "b", ""} }, 4, 2},
		{"key", func(g *given) { g.c.Members = named(3) }, 4, -1},
		{"who", func(g *given) { g.key = "k" }, 2, -1},
		{"op", func(g *given) { g.who = 0 }, 2, -1},
		{"config", func(g *given) { g.op = 0 }, 2, -1},
	} {
		x.mend(&all)
		_, putErr := all.put()
		_, getErr := all.get()
		for _, err := range []error{putErr, getErr} {
			if code, at := plain.Code(err); code != x.code || at != x.at {
				t.Errorf("%s: %d at %d, want %d at %d", x.name, code, at, x.code, x.at)
			}
		}
	}
	all.config = 0
	_, err := all.put()
	if code, at := plain.Code(err); code != 2 || at != -1 {
		t.Errorf("text: %d at %d", code, at)
	}
	if a, err := all.get(); a == nil || err != nil {
		t.Errorf("a Get has no text, and told %v", err)
	}
}

// P3: what lies behind a length is neither read nor written.
func TestWhatLiesBehindIsNotThere(t *testing.T) {
	g := five()
	messages := heard(t, g)
	alone, err := g.get()
	want := played(begun(t, alone, err), messages)
	long := append(slices.Clone(g.c.Members), "more", "more")
	g.c.Members = long[:5]
	behind := api.Version{Tag: api.Tag{N: 900}, Size: 1, S: api.Shard{Text: "b"}}
	var lists [][]api.Version
	for i, m := range messages {
		l := append(slices.Clone(m.L), behind, behind)
		lists = append(lists, l)
		messages[i].L = l[:len(m.L)]
	}
	a, err := g.get()
	if got := played(begun(t, a, err), messages); !got.same(want) {
		t.Errorf("told %v, want %v", got, want)
	}
	if long[5] != "more" || long[6] != "more" {
		t.Error("written behind members")
	}
	for _, l := range lists {
		if l[len(l)-1] != behind || l[len(l)-2] != behind {
			t.Error("written behind a list")
		}
	}
}

// P4: what was handed over is changed behind each call.
func TestWhatIsHandedOverIsOnlyReadAndNotKept(t *testing.T) {
	g := five()
	// What was told first is needed where enough have told.
	g.c = config(5, 3)
	messages := heard(t, g)
	for name, make := range map[string]func(g given) (*ask.Ask, error){"put": given.put, "get": given.get} {
		alone, err := make(g)
		want := played(begun(t, alone, err), messages)
		own := g
		own.c.Members = slices.Clone(g.c.Members)
		a, err := make(own)
		begun(t, a, err)
		if !slices.Equal(own.c.Members, g.c.Members) {
			t.Errorf("%s: written into members", name)
		}
		slices.Reverse(own.c.Members)
		own.c.Members[0] = "gone"
		got := outcome{sent: [][]wire.Message{a.Begin()}}
		for _, m := range messages {
			mine := m
			mine.L = slices.Clone(m.L)
			got.sent = append(got.sent, a.Hear(mine), a.Begin())
			got.states = append(got.states, a.State())
			if !same(mine, m) {
				t.Errorf("%s: written into %v", name, m)
			}
			for i := range mine.L {
				mine.L[i] = api.Version{Tag: api.Tag{N: 99, Who: 99}, Size: 1, S: api.Shard{At: 1, Text: "z"}}
			}
		}
		got.tag, got.text, got.found = a.Answer()
		if !got.same(want) {
			t.Errorf("%s: a later change shows: %v, want %v", name, got, want)
		}
	}
}

// P4: what was answered is changed behind each call.
func TestWhatIsWrittenIntoAnAnswerDoesNotShow(t *testing.T) {
	g := five()
	messages := heard(t, g)
	for name, make := range map[string]func(g given) (*ask.Ask, error){"put": given.put, "get": given.get} {
		alone, err := make(g)
		want := played(begun(t, alone, err), messages)
		a, err := make(g)
		begun(t, a, err)
		var got outcome
		// spoilt keeps what was sent, and then writes into it.
		spoilt := func(l []wire.Message) {
			var copies []wire.Message
			for i, m := range l {
				m.L = slices.Clone(m.L)
				copies = append(copies, m)
				for j := range l[i].L {
					l[i].L[j] = api.Version{}
				}
				_ = append(l[i].L, api.Version{Size: 7})
				l[i] = wire.Message{From: "gone", To: "gone", Sealed: true}
			}
			_ = append(l, wire.Message{})
			got.sent = append(got.sent, copies)
		}
		spoilt(a.Begin())
		for _, m := range messages {
			spoilt(a.Hear(m))
			spoilt(a.Begin())
			got.states = append(got.states, a.State())
		}
		got.tag, got.text, got.found = a.Answer()
		if !got.same(want) {
			t.Errorf("%s: what was written shows: %v, want %v", name, got, want)
		}
	}
}

// P4: what is written into one message does not show in another one of the same answer.
func TestMessagesOfOneAnswerShareNothing(t *testing.T) {
	g := five()
	a, err := g.put()
	begun(t, a, err)
	l, want := g.hearTold(t, a), g.keeps(t, api.Tag{N: 1, Who: 2}, g.text)
	for i := range l {
		sent(t, "left", l[i:], want[i:])
		l[i].L[0] = api.Version{}
		_ = append(l[i].L, api.Version{Size: 1})
		_ = append(l[i].L, api.Version{Size: 2})
	}
}

// overlap tells whether two texts share memory.
func overlap(a, b string) bool {
	if a == "" || b == "" {
		return false
	}
	atA, atB := uintptr(unsafe.Pointer(unsafe.StringData(a))), uintptr(unsafe.Pointer(unsafe.StringData(b)))
	return atA < atB+uintptr(len(b)) && atB < atA+uintptr(len(a))
}

// P4
func TestTextsOfAnswersAreNewMemory(t *testing.T) {
	g := five()
	messages := heard(t, g)
	for name, make := range map[string]func(g given) (*ask.Ask, error){"put": given.put, "get": given.get} {
		a, err := make(g)
		o := played(begun(t, a, err), messages)
		_, again, _ := a.Answer()
		in := append(slices.Clone(g.c.Members), g.key, g.text)
		for _, m := range messages {
			in = append(in, m.From, m.To, m.Key)
			for _, v := range m.L {
				in = append(in, v.S.Text)
			}
		}
		out := []string{o.text, again}
		for _, m := range slices.Concat(o.sent...) {
			out = append(out, m.From, m.To, m.Key)
			for _, v := range m.L {
				out = append(out, v.S.Text)
			}
		}
		for i, x := range out {
			for _, y := range slices.Concat(in, out[i+1:]) {
				if overlap(x, y) {
					t.Errorf("%s: %q and %q share memory", name, x, y)
				}
			}
		}
	}
}

// P4: texts whose bytes are changed later, as no text's are by the language's own means.
func TestTextsAreNotKept(t *testing.T) {
	g := five()
	// What was told first is needed where enough have told.
	g.c = config(5, 3)
	messages := heard(t, g)
	for name, make := range map[string]func(g given) (*ask.Ask, error){"put": given.put, "get": given.get} {
		alone, err := make(g)
		want := played(begun(t, alone, err), messages)
		var all [][]byte
		text := func(s string) string {
			bytes := []byte(s)
			all = append(all, bytes)
			return unsafe.String(&bytes[0], len(bytes))
		}
		spoil := func() {
			for _, bytes := range all {
				clear(bytes)
			}
		}
		own := g
		own.key, own.text, own.c.Members = text(g.key), text(g.text), nil
		for _, member := range g.c.Members {
			own.c.Members = append(own.c.Members, text(member))
		}
		a, err := make(own)
		begun(t, a, err)
		spoil()
		got := outcome{sent: [][]wire.Message{a.Begin()}}
		for _, m := range messages {
			mine := wire.Message{From: text(m.From), To: text(m.To), Kind: text(m.Kind), Key: text(m.Key), Op: m.Op, Config: m.Config}
			for _, v := range m.L {
				v.S.Text = text(v.S.Text)
				mine.L = append(mine.L, v)
			}
			l := a.Hear(mine)
			spoil()
			got.sent = append(got.sent, l, a.Begin())
			got.states = append(got.states, a.State())
		}
		got.tag, got.text, got.found = a.Answer()
		if !got.same(want) {
			t.Errorf("%s: a later change shows: %v, want %v", name, got, want)
		}
	}
}
