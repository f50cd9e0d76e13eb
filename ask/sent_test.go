package ask_test

import (
	"slices"
	"strconv"
	"testing"

	"shardkeep/api"
	"shardkeep/ask"
	"shardkeep/coder"
	"shardkeep/wire"
)

func (g given) name() string { return "c" + strconv.Itoa(g.who) }

// looks are what an ask sends first.
func (g given) looks() []wire.Message {
	var l []wire.Message
	for _, member := range g.c.Members {
		l = append(l, wire.Message{From: g.name(), To: member, Kind: "look", Key: g.key, Op: g.op, Config: g.config})
	}
	return l
}

// keeps are what it sends then: to each member its shard.
func (g given) keeps(t *testing.T, tag api.Tag, text string) []wire.Message {
	t.Helper()
	var l []wire.Message
	for i, v := range versions(t, g.c, tag, text) {
		l = append(l, wire.Message{From: g.name(), To: g.c.Members[i], Kind: "keep", Key: g.key, Op: g.op, Config: g.config, L: []api.Version{v}})
	}
	return l
}

// versions has each member's shard of a text.
func versions(t *testing.T, c api.Config, tag api.Tag, text string) []api.Version {
	t.Helper()
	shards, err := coder.Encode(c.N, c.K, text)
	if err != nil {
		t.Fatal(err)
	}
	l := make([]api.Version, c.N)
	for i, x := range shards {
		l[i] = api.Version{Tag: tag, Size: len(text), S: x}
	}
	return l
}

// answer is what a member answers.
func (g given) answer(from, kind string, l ...api.Version) wire.Message {
	return wire.Message{From: from, To: g.name(), Kind: kind, Key: g.key, Op: g.op, Config: g.config, L: l}
}

func (g given) sealed(from, kind string, l ...api.Version) wire.Message {
	m := g.answer(from, kind, l...)
	m.Sealed = true
	return m
}

// same takes a nil list and an empty one for one thing.
func same(a, b wire.Message) bool {
	return a.From == b.From && a.To == b.To && a.Kind == b.Kind && a.Key == b.Key && a.Op == b.Op &&
		a.Config == b.Config && a.Sealed == b.Sealed && slices.Equal(a.L, b.L)
}

// sent asks for messages: all fields, in order.
func sent(t *testing.T, name string, got, want []wire.Message) {
	t.Helper()
	if !slices.EqualFunc(got, want, same) {
		t.Errorf("%s: sent %v, want %v", name, got, want)
	}
}

// stands asks for a state in which nothing is answered.
func stands(t *testing.T, name string, a *ask.Ask, state string) {
	t.Helper()
	tag, text, found := a.Answer()
	if a.State() != state || tag != (api.Tag{}) || text != "" || found {
		t.Errorf("%s: %s, %v, %q, %v, want %s and nothing", name, a.State(), tag, text, found, state)
	}
}

// doneWith asks for an answer.
func doneWith(t *testing.T, name string, a *ask.Ask, tag api.Tag, text string) {
	t.Helper()
	gotTag, got, found := a.Answer()
	if a.State() != "done" || gotTag != tag || got != text || !found {
		t.Errorf("%s: %s, %v, %q, %v, want done, %v, %q", name, a.State(), gotTag, got, found, tag, text)
	}
}

// passed asks that a message changes nothing that shows.
func passed(t *testing.T, name string, a *ask.Ask, m wire.Message) {
	t.Helper()
	state := a.State()
	tag, text, found := a.Answer()
	sent(t, name, a.Hear(m), nil)
	nowTag, nowText, nowFound := a.Answer()
	if a.State() != state || nowTag != tag || nowText != text || nowFound != found {
		t.Errorf("%s: from %s, %v, %q, %v to %s, %v, %q, %v", name, state, tag, text, found, a.State(), nowTag, nowText, nowFound)
	}
}

// hearTold has the first members told lists, as many as are enough; what is sent behind the last one.
func (g given) hearTold(t *testing.T, a *ask.Ask, lists ...[]api.Version) []wire.Message {
	t.Helper()
	enough := enoughOf(g.c)
	for i := range enough {
		var l []api.Version
		if i < len(lists) {
			l = lists[i]
		}
		m := g.answer(g.c.Members[i], "told", l...)
		if i == enough-1 {
			return a.Hear(m)
		}
		sent(t, "one fewer than enough", a.Hear(m), nil)
		stands(t, "one fewer than enough", a, "looking")
	}
	return nil
}

// hearKept has the last members keep, as many as are enough.
func (g given) hearKept(t *testing.T, a *ask.Ask) {
	t.Helper()
	for i := range enoughOf(g.c) {
		stands(t, "too few have kept", a, "keeping")
		sent(t, "kept", a.Hear(g.answer(g.c.Members[g.c.N-1-i], "kept")), nil)
	}
}
