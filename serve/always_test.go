package serve_test

import (
	"math/rand/v2"
	"slices"
	"strconv"
	"strings"
	"testing"

	"shardkeep/api"
	"shardkeep/ask"
	"shardkeep/serve"
	"shardkeep/wire"
)

// slow is a member as the document tells it, by lists.
type slow struct {
	name    string
	configs []int
	sealed  []int
	kept    []record
}

type record struct {
	config int
	key    string
	v      api.Version
}

func isName(s string) bool {
	return len(s) >= 1 && len(s) <= 16 && strings.Trim(s, "abcdefghijklmnopqrstuvwxyz0123456789-") == ""
}

func isVersion(v api.Version) bool {
	const most = 1 << 40
	return v.Tag.N >= 0 && v.Tag.N <= most && v.Tag.Who >= 0 && v.Tag.Who <= most && v.Size >= 0 && v.Size <= 1000 &&
		v.S.At >= 0 && v.S.At <= 11 && len(v.S.Text) <= 1000
}

func (s *slow) versions(config int, key string) []api.Version {
	var l []api.Version
	for _, r := range s.kept {
		if r.config == config && r.key == key {
			l = append(l, r.v)
		}
	}
	slices.SortFunc(l, func(a, b api.Version) int {
		if a.Tag.N != b.Tag.N {
			return a.Tag.N - b.Tag.N
		}
		return a.Tag.Who - b.Tag.Who
	})
	return l
}

// put tells whether it is kept.
func (s *slow) put(config int, key string, v api.Version) bool {
	if !isVersion(v) {
		return false
	}
	count := 0
	for _, r := range s.kept {
		if r.config == config {
			count++
		}
		if r.config == config && r.key == key && r.v.Tag == v.Tag {
			return r.v == v
		}
	}
	if count >= 60 {
		return false
	}
	s.kept = append(s.kept, record{config, key, v})
	return true
}

func (s *slow) hear(x wire.Message) []wire.Message {
	if x.To != s.name || x.Config < 0 || !isName(x.Key) || x.Kind != "look" && x.Kind != "keep" && x.Kind != "seal" || x.Kind == "keep" && len(x.L) != 1 {
		return nil
	}
	if !slices.Contains(s.configs, x.Config) {
		if len(s.configs) == 12 {
			return nil
		}
		s.configs = append(s.configs, x.Config)
	}
	a := wire.Message{From: s.name, To: x.From, Key: x.Key, Op: x.Op, Config: x.Config}
	sealed := slices.Contains(s.sealed, x.Config)
	switch x.Kind {
	case "look":
		a.Kind, a.Sealed, a.L = "told", sealed, s.versions(x.Config, x.Key)
	case "keep":
		if !sealed && !s.put(x.Config, x.Key, x.L[0]) {
			return nil
		}
		a.Kind, a.Sealed = "kept", sealed
	case "seal":
		s.sealed = append(s.sealed, x.Config)
		a.Kind, a.L = "sealed", s.versions(x.Config, x.Key)
	}
	return []wire.Message{a}
}

// anyOf takes one, mostly the first ones.
func anyOf[T any](r *rand.Rand, l ...T) T {
	return l[min(r.IntN(len(l)), r.IntN(len(l)))]
}

func anyVersion(r *rand.Rand) api.Version {
	return api.Version{
		Tag:  api.Tag{N: anyOf(r, r.IntN(6), r.IntN(40), r.IntN(6), 1<<40, 1<<40+1, -1), Who: anyOf(r, 0, 1, 2, 1<<40, 1<<40+1, -1)},
		Size: anyOf(r, 1, 2, 1, 1000, 1001, -1),
		S:    api.Shard{At: anyOf(r, 0, 0, 1, 11, 12, -1), Text: anyOf(r, "a", "a", "b", "", strings.Repeat("x", 1000), strings.Repeat("x", 1001))},
	}
}

func anyMessage(r *rand.Rand, configs int, kinds ...string) wire.Message {
	x := wire.Message{
		From: anyOf(r, "c0", "c1", "mover", ""), To: anyOf(r, "member", "member", "member", "member", "other"),
		Kind: kinds[r.IntN(len(kinds))], Key: anyOf(r, "x", "y", "z", "z", "z", "K"),
		Op: r.IntN(9) - 1, Config: anyOf(r, r.IntN(configs), r.IntN(configs), r.IntN(configs), -1), Sealed: r.IntN(5) == 0,
	}
	for range anyOf(r, 1, 1, 1, 1, 0, 2) {
		x.L = append(x.L, anyVersion(r))
	}
	return x
}

// P100, P101: mixtures of all that a member hears, beside a member by lists.
func TestMixtures(t *testing.T) {
	r := rand.New(rand.NewPCG(10, 100))
	for turn := range 300 {
		m, s := member(t), &slow{name: "member"}
		configs := 1 + turn%15
		for step := range 400 {
			if r.IntN(150) == 0 {
				m.Wipe()
				s = &slow{name: "member"}
			}
			x := anyMessage(r, configs, "look", "keep", "keep", "keep", "keep", anyOf(r, "keep", "seal"), anyOf(r, "keep", "told"))
			got, want := m.Hear(x), s.hear(x)
			if !slices.EqualFunc(got, want, same) {
				t.Fatalf("turn %d, step %d: %v: answered %v, want %v", turn, step, x, got, want)
			}
		}
		for config := -1; config <= configs; config++ {
			h := m.Hold(config)
			if (h != nil) != slices.Contains(s.configs, config) {
				t.Fatalf("turn %d: the hold of %d: %v", turn, config, h)
			}
			for _, key := range []string{"x", "y", "z"} {
				if h != nil && !slices.Equal(h.Get(key), s.versions(config, key)) {
					t.Fatalf("turn %d: it has %v, want %v", turn, h.Get(key), s.versions(config, key))
				}
			}
		}
	}
}

// P102: whatever comes behind the seal, what was there is told, by look and by seal.
func TestWhatASealedMemberTells(t *testing.T) {
	r := rand.New(rand.NewPCG(10, 102))
	keys := []string{"x", "y", "z", "nothing"}
	for turn := range 200 {
		m := member(t)
		for range turn {
			m.Hear(anyMessage(r, 3, "look", "keep", "keep", "keep"))
		}
		var had [][]api.Version
		for _, key := range keys {
			x := asking("look", 1)
			x.Key = key
			l := m.Hear(x)
			if len(l) != 1 || l[0].Sealed {
				t.Fatalf("turn %d: answered %v", turn, l)
			}
			had = append(had, l[0].L)
		}
		seal := asking("seal", 1)
		seal.Key = keys[turn%len(keys)]
		m.Hear(seal)
		for step := range 100 {
			m.Hear(anyMessage(r, 20, "look", "keep", "keep", "seal", "told"))
			at := step % len(keys)
			look, seal := asking("look", 1), asking("seal", 1)
			look.Key, seal.Key = keys[at], keys[at]
			told, sealed := answer("told", 1, true, had[at]...), answer("sealed", 1, false, had[at]...)
			told.Key, sealed.Key = keys[at], keys[at]
			answers(t, "look", m.Hear(look), told)
			answers(t, "seal", m.Hear(seal), sealed)
		}
	}
}

// played has an ask talk with members until nothing is on its way.
func played(a *ask.Ask, members map[string]*serve.Member) {
	for flying := a.Begin(); len(flying) > 0; flying = flying[1:] {
		for _, x := range members[flying[0].To].Hear(flying[0]) {
			flying = append(flying, a.Hear(x)...)
		}
	}
}

// P100, P102: what clients put they get, of all members; those who are sealed refuse both.
func TestClientsAndMembers(t *testing.T) {
	c := api.Config{N: 5, K: 3}
	members := map[string]*serve.Member{}
	for i := range c.N {
		name := "n" + strconv.Itoa(i)
		c.Members = append(c.Members, name)
		m, err := serve.New(name)
		if err != nil {
			t.Fatal(err)
		}
		members[name] = m
	}
	begin := func(a *ask.Ask, err error) *ask.Ask {
		if err != nil {
			t.Fatal(err)
		}
		played(a, members)
		return a
	}
	for op := range 10 {
		text := strings.Repeat("text", op)
		put := begin(ask.Put(op%3, op, c, 7, "key", text))
		get := begin(ask.Get(5, op, c, 7, "key"))
		tag, got, found := get.Answer()
		if put.State() != "done" || get.State() != "done" || !found || got != text || tag != (api.Tag{N: op + 1, Who: op % 3}) {
			t.Fatalf("%s, %s: got %q of %v", put.State(), get.State(), got, tag)
		}
	}
	for _, name := range c.Members {
		members[name].Hear(wire.Message{From: "mover", To: name, Kind: "seal", Key: "key", Config: 7})
	}
	put, get := begin(ask.Put(1, 20, c, 7, "key", "late")), begin(ask.Get(1, 21, c, 7, "key"))
	if put.State() != "refused" || get.State() != "refused" {
		t.Errorf("%s, %s behind the seal", put.State(), get.State())
	}
	for _, name := range c.Members {
		if tag, _ := members[name].Hold(7).Last("key"); tag != (api.Tag{N: 10}) {
			t.Errorf("%s has %v", name, tag)
		}
	}
}
