package carry_test

import (
	"slices"
	"testing"

	"shardkeep/api"
	"shardkeep/carry"
	"shardkeep/coder"
	"shardkeep/wire"
)

// seals are what a carry sends first, to members of the old configuration.
func (g given) seals() []wire.Message {
	var l []wire.Message
	for _, member := range g.from.Members {
		l = append(l, wire.Message{From: "mover", To: member, Kind: "seal", Key: g.key, Op: g.op, Config: g.config})
	}
	return l
}

// keeps are what it sends then: to each member of the next configuration its shard.
func (g given) keeps(t *testing.T, tag api.Tag, text string) []wire.Message {
	t.Helper()
	var l []wire.Message
	for i, v := range versions(t, g.to, tag, text) {
		l = append(l, wire.Message{From: "mover", To: g.to.Members[i], Kind: "keep", Key: g.key, Op: g.op, Config: g.config + 1, L: []api.Version{v}})
	}
	return l
}

// versions has each member's shard of a text.
func versions(t *testing.T, c api.Config, tag api.Tag, text string) []api.Version {
	t.Helper()
	shards, err := coder.Encode(c.N, c.K, text)
	if err != nil {
		t.Fatal(err)
	}
	l := make([]api.Version, c.N)
	for i, x := range shards {
		l[i] = api.Version{Tag: tag, Size: len(text), S: x}
	}
	return l
}

// split has a list of each version.
func split(l []api.Version) [][]api.Version {
	var lists [][]api.Version
	for _, v := range l {
		lists = append(lists, []api.Version{v})
	}
	return lists
}

// sealed is what a member of the old configuration answers.
func (g given) sealed(from string, l ...api.Version) wire.Message {
	return wire.Message{From: from, To: "mover", Kind: "sealed", Key: g.key, Op: g.op, Config: g.config, L: l}
}

// kept is what a member of the next configuration answers.
func (g given) kept(from string) wire.Message {
	return wire.Message{From: from, To: "mover", Kind: "kept", Key: g.key, Op: g.op, Config: g.config + 1}
}

// withSealed has Sealed set.
func withSealed(m wire.Message) wire.Message {
	m.Sealed = true
	return m
}

// same takes a nil list and an empty one for one thing.
func same(a, b wire.Message) bool {
	return a.From == b.From && a.To == b.To && a.Kind == b.Kind && a.Key == b.Key && a.Op == b.Op &&
		a.Config == b.Config && a.Sealed == b.Sealed && slices.Equal(a.L, b.L)
}

// sent asks for messages: all fields, in order.
func sent(t *testing.T, name string, got, want []wire.Message) {
	t.Helper()
	if !slices.EqualFunc(got, want, same) {
		t.Errorf("%s: sent %v, want %v", name, got, want)
	}
}

// stands asks for a state in which nothing is answered.
func stands(t *testing.T, name string, c *carry.Carry, state string) {
	t.Helper()
	tag, text, found := c.Answer()
	if c.State() != state || tag != (api.Tag{}) || text != "" || found {
		t.Errorf("%s: %s, %v, %q, %v, want %s and nothing", name, c.State(), tag, text, found, state)
	}
}

// doneWith asks for an answer.
func doneWith(t *testing.T, name string, c *carry.Carry, tag api.Tag, text string) {
	t.Helper()
	gotTag, got, found := c.Answer()
	if c.State() != "done" || gotTag != tag || got != text || !found {
		t.Errorf("%s: %s, %v, %q, %v, want done, %v, %q", name, c.State(), gotTag, got, found, tag, text)
	}
}

// passed asks that a message changes nothing that shows.
func passed(t *testing.T, name string, c *carry.Carry, m wire.Message) {
	t.Helper()
	state := c.State()
	tag, text, found := c.Answer()
	sent(t, name, c.Hear(m), nil)
	nowTag, nowText, nowFound := c.Answer()
	if c.State() != state || nowTag != tag || nowText != text || nowFound != found {
		t.Errorf("%s: from %s, %v, %q, %v to %s, %v, %q, %v", name, state, tag, text, found, c.State(), nowTag, nowText, nowFound)
	}
}

// hearSealed has the first members sealed, as many as are enough, with lists; what is sent behind the last one.
func (g given) hearSealed(t *testing.T, c *carry.Carry, lists ...[]api.Version) []wire.Message {
	t.Helper()
	enough := enoughOf(g.from)
	for i := range enough {
		var l []api.Version
		if i < len(lists) {
			l = lists[i]
		}
		m := g.sealed(g.from.Members[i], l...)
		if i == enough-1 {
			return c.Hear(m)
		}
		sent(t, "one fewer than enough", c.Hear(m), nil)
		stands(t, "one fewer than enough", c, "sealing")
	}
	return nil
}

// hearKept has the last members keep, as many as are enough.
func (g given) hearKept(t *testing.T, c *carry.Carry) {
	t.Helper()
	for i := range enoughOf(g.to) {
		stands(t, "too few have kept", c, "keeping")
		sent(t, "kept", c.Hear(g.kept(g.to.Members[g.to.N-1-i])), nil)
	}
}
