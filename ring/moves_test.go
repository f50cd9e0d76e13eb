package ring_test

import (
	"math"
	"slices"
	"testing"

	"shardkeep/api"
	"shardkeep/ring"
)

func sameChanges(a, b []ring.Change) bool {
	return slices.EqualFunc(a, b, func(x, y ring.Change) bool {
		return x.Key == y.Key && slices.Equal(x.From, y.From) && slices.Equal(x.To, y.To)
	})
}

// slowMoves asks key by key.
func slowMoves(old, now, keys []string, n int) []ring.Change {
	var l []ring.Change
	for _, key := range keys {
		from, to := slowly(old, key)[:n], slowly(now, key)[:n]
		if !slices.Equal(from, to) {
			l = append(l, ring.Change{Key: key, From: from, To: to})
		}
	}
	return l
}

// moves asks of rings that there are.
func moves(t *testing.T, old, now, keys []string, n int) []ring.Change {
	t.Helper()
	l, err := ring.Moves(old, now, keys, n)
	if err != nil {
		t.Fatalf("Moves(%q, %q, %d keys, %d): %v", old, now, len(keys), n, err)
	}
	return l
}

// P52: key keeps its nodes, x does not; each as often as it is asked for.
func TestMovesOfKnownKeys(t *testing.T) {
	got := moves(t, []string{"a", "b", "c"}, []string{"a", "b", "d", "c"}, []string{"x", "a#0", "key", "x"}, 1)
	want := []ring.Change{{Key: "x", From: []string{"b"}, To: []string{"d"}}, {Key: "x", From: []string{"b"}, To: []string{"d"}}}
	if !sameChanges(got, want) {
		t.Errorf("told %q, want %q", got, want)
	}
	got = moves(t, []string{"a", "b", "c", "d", "e"}, []string{"c", "b", "a"}, []string{"", "x"}, 3)
	want = []ring.Change{{Key: "", From: []string{"e", "a", "d"}, To: []string{"a", "b", "c"}}, {Key: "x", From: []string{"d", "b", "c"}, To: []string{"b", "c", "a"}}}
	if !sameChanges(got, want) {
		t.Errorf("told %q, want %q", got, want)
	}
}

// P52: from no node to as many as both rings have.
func TestMovesOfManyKeys(t *testing.T) {
	all := named(api.MaxNodes)
	keys := append(keyed(80), "", "\xff", "key twice", "key twice")
	for _, c := range []struct{ old, now []string }{
		{all, all[:1]},
		{all[:1], all},
		{all[:1], all[1:2]},
		{all[:8], all[8:]},
		{all[:8], all[4:12]},
		{all[:5], append(slices.Clone(all[:4]), all[7])},
		{all[:3], all[:4]},
		{all[:4], all[:3]},
		{[]string{"crj", "b"}, []string{"aaik", "b"}},
	} {
		for n := range min(len(c.old), len(c.now)) + 1 {
			if got, want := moves(t, c.old, c.now, keys, n), slowMoves(c.old, c.now, keys, n); !sameChanges(got, want) {
				t.Errorf("Moves(%q, %q, %d): %q, want %q", c.old, c.now, n, got, want)
			}
		}
	}
}

// P52
func TestMovesOfTheSameRingInAnotherOrder(t *testing.T) {
	nodes := named(api.MaxNodes)
	back := slices.Clone(nodes)
	slices.Reverse(back)
	for n := range len(nodes) + 1 {
		if l := moves(t, nodes, back, keyed(50), n); len(l) != 0 {
			t.Errorf("%d nodes: %q", n, l)
		}
	}
}

// P52
func TestMovesOfNoKeyAndOfManyKeys(t *testing.T) {
	old, now := named(3), named(4)
	for _, keys := range [][]string{nil, {}} {
		if l := moves(t, old, now, keys, 2); len(l) != 0 {
			t.Errorf("no key: %q", l)
		}
	}
	for _, count := range []int{1, api.MaxMoves - 1, api.MaxMoves} {
		if got, want := moves(t, old, named(16)[4:], keyed(count), 2), slowMoves(old, named(16)[4:], keyed(count), 2); len(got) != count || !sameChanges(got, want) {
			t.Errorf("%d keys: %d of them are told", count, len(got))
		}
	}
	for _, count := range []int{api.MaxMoves + 1, 10 * api.MaxMoves} {
		for _, nodes := range [][]string{now, old} {
			for _, n := range []int{0, 2, 3} {
				l, err := ring.Moves(old, nodes, keyed(count), n)
				told(t, "too many keys", err, api.ErrBound, -1)
				if len(l) != 0 {
					t.Errorf("%d keys: %d changes beside an error", count, len(l))
				}
			}
		}
	}
}

// P52: of old first; also with no key, and with too many of them.
func TestMovesOfWrongNodes(t *testing.T) {
	fine := named(4)
	for _, keys := range [][]string{nil, keyed(3), keyed(api.MaxMoves + 1)} {
		for _, c := range wrongNodes() {
			for _, n := range []int{0, 1, 4} {
				_, err := ring.Moves(fine, c.nodes, keys, n)
				told(t, c.name, err, c.want, c.at)
			}
			for _, n := range []int{0, 1, 17, -1, math.MaxInt, math.MinInt} {
				l, err := ring.Moves(c.nodes, fine, keys, n)
				told(t, c.name, err, c.want, c.at)
				if len(l) != 0 {
					t.Errorf("%s: %q beside an error", c.name, l)
				}
				for _, other := range wrongNodes() {
					_, err := ring.Moves(c.nodes, other.nodes, keys, n)
					told(t, c.name+" and "+other.name, err, c.want, c.at)
				}
			}
		}
	}
}

// P52
func TestMovesOfWrongCounts(t *testing.T) {
	fine, fewer := named(4), named(3)
	for _, keys := range [][]string{nil, keyed(3)} {
		for _, c := range []struct {
			name     string
			old, now []string
			n        int
			want     error
			at       int
		}{
			{"as many as both have", fine, fine, 4, nil, -1},
			{"as many as the fewer", fine, fewer, 3, nil, -1},
			{"more than both have", fine, fine, 5, api.ErrFew, -1},
			{"more than old has", fewer, fine, 4, api.ErrFew, -1},
			{"more than now has", fine, fewer, 4, api.ErrFew, -1},
			{"far more", fine, fine, math.MaxInt, api.ErrFew, -1},
			{"none", fine, fewer, 0, nil, -1},
			{"below 0", fine, fewer, -1, api.ErrBound, -1},
			{"far below 0", fine, fine, math.MinInt, api.ErrBound, -1},
			{"more than old has, and now has no name", fewer, []string{"A"}, 4, api.ErrFew, -1},
			{"below 0, and now has one twice", fine, []string{"a", "a"}, -1, api.ErrBound, -1},
			{"more than now has, which has one twice", fine, []string{"a", "a"}, 4, api.ErrExist, 1},
		} {
			l, err := ring.Moves(c.old, c.now, keys, c.n)
			told(t, c.name, err, c.want, c.at)
			if c.want != nil && len(l) != 0 {
				t.Errorf("%s: %q beside an error", c.name, l)
			}
		}
	}
	_, err := ring.Moves(fine, fewer, keyed(api.MaxMoves+1), 4)
	told(t, "too many keys, more than now has", err, api.ErrFew, -1)
	_, err = ring.Moves(fine, fine, keyed(api.MaxMoves+1), -1)
	told(t, "too many keys, below 0", err, api.ErrBound, -1)
}

// without is a list but for one of it.
func without(l []string, s string) []string {
	return slices.DeleteFunc(slices.Clone(l), func(x string) bool { return x == s })
}

// stays asks what one node more does to the nodes of a key: at most the last one goes, for it.
func stays(t *testing.T, more, key string, from, to []string) {
	t.Helper()
	rest := without(to, more)
	if len(rest) < len(from)-1 || !slices.Equal(rest, from[:len(rest)]) {
		t.Errorf("%s comes, %q: from %q to %q", more, key, from, to)
	}
}

// P53
func TestWhereOneNodeComesLittleMoves(t *testing.T) {
	for _, count := range []int{1, 2, 3, 7, 14} {
		nodes := named(count)
		for _, more := range []string{"x", "aaik", "crj", "-", "0123456789abcdef", "node-77"} {
			grown := slices.Insert(slices.Clone(nodes), count/2, more)
			for n := range count + 1 {
				changes := moves(t, nodes, grown, keyed(100), n)
				for _, change := range changes {
					stays(t, more, change.Key, change.From, change.To)
					if !slices.Contains(change.To, more) {
						t.Errorf("%s comes, %d nodes: %q does not prefer it, and moves", more, n, change.Key)
					}
				}
				if back := moves(t, grown, nodes, keyed(100), n); len(back) != len(changes) {
					t.Errorf("%s comes and goes, %d nodes: %d keys moved, %d back", more, n, len(changes), len(back))
				}
				for _, key := range keyed(100) {
					stays(t, more, key, prefer(t, nodes, key, n), prefer(t, grown, key, n))
				}
			}
		}
	}
}

// P53: also where what comes has the points of one that is there.
func TestWhereAPointIsAlreadyThereLittleMoves(t *testing.T) {
	for _, c := range []struct{ there, more string }{{"aaik", "crj"}, {"crj", "aaik"}} {
		nodes := append(named(4), c.there)
		for n := range len(nodes) + 1 {
			for _, key := range append(keyed(100), "aaik#0", "aaik#7", "crj#3") {
				stays(t, c.more, key, prefer(t, nodes, key, n), prefer(t, append(slices.Clone(nodes), c.more), key, n))
			}
		}
	}
}
