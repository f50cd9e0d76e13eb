package serve_test

import (
	"errors"
	"slices"
	"strings"
	"testing"

	"shardkeep/api"
	"shardkeep/serve"
	"shardkeep/wire"
)

func version(n, who int, text string) api.Version {
	return api.Version{Tag: api.Tag{N: n, Who: who}, Size: len(text), S: api.Shard{At: who % api.MaxShards, Text: text}}
}

// member has the name that asking asks.
func member(t *testing.T) *serve.Member {
	t.Helper()
	m, err := serve.New("member")
	if m == nil || err != nil {
		t.Fatalf("no member: %v", err)
	}
	return m
}

// asking is a message in which nothing is wrong.
func asking(kind string, config int, l ...api.Version) wire.Message {
	return wire.Message{From: "c0", To: "member", Kind: kind, Key: "key", Op: 4, Config: config, L: l}
}

// answer to what asking asks, with all of its fields.
func answer(kind string, config int, sealed bool, l ...api.Version) wire.Message {
	return wire.Message{From: "member", To: "c0", Kind: kind, Key: "key", Op: 4, Config: config, Sealed: sealed, L: l}
}

func same(a, b wire.Message) bool {
	return a.From == b.From && a.To == b.To && a.Kind == b.Kind && a.Key == b.Key && a.Op == b.Op &&
		a.Config == b.Config && a.Sealed == b.Sealed && slices.Equal(a.L, b.L)
}

// answers asks for just these, with all of their fields.
func answers(t *testing.T, name string, got []wire.Message, want ...wire.Message) {
	t.Helper()
	if !slices.EqualFunc(got, want, same) {
		t.Errorf("%s: answered %v, want %v", name, got, want)
	}
}

// keeps has a member keep versions, of one configuration and key.
func keeps(t *testing.T, m *serve.Member, config int, l ...api.Version) {
	t.Helper()
	for _, v := range l {
		answers(t, "keep", m.Hear(asking("keep", config, v)), answer("kept", config, false))
	}
}

func noNames() []string {
	return []string{"", " ", "K", "a b", "a_b", "a.b", "key\n", "\x00", "\xff", "é", "a#", "`", "{", "/", ":", strings.Repeat("k", 17), strings.Repeat("k", 1<<16)}
}

// P100: a name is bare letters, digits and dashes, 1 to 16 of them.
func TestNames(t *testing.T) {
	for _, name := range []string{"a", "0", "-", "a-0", "z9", "c0", "mover", strings.Repeat("k", 15), strings.Repeat("k", 16)} {
		m, err := serve.New(name)
		if m == nil || err != nil {
			t.Errorf("%q: told %v, %v", name, m, err)
			continue
		}
		x := asking("look", 0)
		x.To = name
		want := answer("told", 0, false)
		want.From = name
		answers(t, name, m.Hear(x), want)
	}
}

// P100
func TestNamesThatAreNone(t *testing.T) {
	for _, name := range noNames() {
		m, err := serve.New(name)
		var fault *api.Fault
		if m != nil || err != api.ErrName || errors.As(err, &fault) {
			t.Errorf("%q: told %v, %v", name, m, err)
		}
	}
}
