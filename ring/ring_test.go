package ring_test

import (
	"cmp"
	"hash/fnv"
	"slices"
	"strconv"
	"testing"

	"shardkeep/api"
	"shardkeep/ring"
)

// number is what a text has on the ring.
func number(s string) uint32 {
	h := fnv.New32a()
	h.Write([]byte(s))
	return h.Sum32()
}

// slowly tells all nodes, by the way from the key to the nearest point of each: without a ring.
func slowly(nodes []string, key string) []string {
	way := func(node string) uint32 {
		least := ^uint32(0)
		for i := range 8 {
			least = min(least, number(node+"#"+strconv.Itoa(i))-number(key))
		}
		return least
	}
	l := slices.Clone(nodes)
	slices.SortFunc(l, func(a, b string) int { return cmp.Or(cmp.Compare(way(a), way(b)), cmp.Compare(a, b)) })
	return l
}

// named are as many nodes, of names of all lengths.
func named(count int) []string {
	var l []string
	for i := range count {
		l = append(l, ("node-" + strconv.Itoa(i*7919) + "-of-a-ring")[i%5:][:i+1])
	}
	return l
}

// keyed are as many keys.
func keyed(count int) []string {
	var l []string
	for i := range count {
		l = append(l, "key"+strconv.Itoa(i*i*31)+"."+strconv.Itoa(i))
	}
	return l
}

// keyMaker makes keys that have just the numbers that are wanted: two bytes from the front, and three from the back meet in the middle.
func keyMaker(t *testing.T) func(want uint32) string {
	const factor = 16777619
	back := uint32(1) // what times factor is 1
	for range 5 {
		back *= 2 - factor*back
	}
	starts := map[uint32]string{}
	for b := range 1 << 16 {
		start := string([]byte{byte(b >> 8), byte(b)})
		starts[number(start)] = start
	}
	return func(want uint32) string {
		t.Helper()
		for b := range 1 << 24 {
			end := []byte{byte(b >> 16), byte(b >> 8), byte(b)}
			middle := want
			for _, c := range slices.Backward(end) {
				middle = middle*back ^ uint32(c)
			}
			if start, is := starts[middle]; is && number(start+string(end)) == want {
				return start + string(end)
			}
		}
		t.Fatalf("no key has the number %d", want)
		return ""
	}
}

// prefer asks for nodes that there are.
func prefer(t *testing.T, nodes []string, key string, n int) []string {
	t.Helper()
	l, err := ring.Prefer(nodes, key, n)
	if err != nil || len(l) != n {
		t.Fatalf("Prefer(%q, %q, %d) = %q, %v", nodes, key, n, l, err)
	}
	return l
}

// P50, P51
func TestPreferOfKnownKeys(t *testing.T) {
	for _, c := range []struct {
		nodes []string
		key   string
		want  []string
	}{
		{[]string{"a", "b", "c"}, "x", []string{"b", "c", "a"}},
		{[]string{"a", "b", "c"}, "", []string{"a", "b", "c"}},
		{[]string{"a", "b", "c"}, "key", []string{"a", "b", "c"}},
		{[]string{"a", "b", "c", "d", "e"}, "x", []string{"d", "b", "c", "e", "a"}},
		{[]string{"a", "b", "c", "d", "e"}, "", []string{"e", "a", "d", "b", "c"}},
		{[]string{"a", "b", "c", "d", "e"}, "a#0", []string{"a", "d", "b", "c", "e"}},
		{[]string{"a"}, "x", []string{"a"}},
	} {
		if got, err := ring.Prefer(c.nodes, c.key, len(c.nodes)); !slices.Equal(got, c.want) || err != nil {
			t.Errorf("Prefer(%q, %q) = %q, %v, want %q", c.nodes, c.key, got, err, c.want)
		}
	}
}

// P51: from no node to as many as there are, of one node and of as many as there may be.
func TestPreferOfManyKeys(t *testing.T) {
	for _, count := range []int{1, 2, 3, 5, 8, 15, api.MaxNodes} {
		nodes := named(count)
		keys := append(keyed(60), "", "\x00", "\xff\xfe", "Ä key, of whatever bytes # there are", nodes[0], nodes[0]+"#0", nodes[count-1]+"#7", nodes[0]+"#8")
		for _, key := range keys {
			want := slowly(nodes, key)
			for n := range count + 1 {
				if got := prefer(t, nodes, key, n); !slices.Equal(got, want[:n]) {
					t.Errorf("Prefer of %d nodes, %q, %d = %q, want %q", count, key, n, got, want[:n])
				}
			}
		}
	}
}

// P50: of each node just the points from 0 to 7: at a point, one ahead of it, and one behind it.
func TestPreferAtEachPoint(t *testing.T) {
	nodes, keyOf := []string{"a", "b", "c", "node-4"}, keyMaker(t)
	for _, node := range nodes {
		for i := range 10 {
			at := number(node + "#" + strconv.Itoa(i))
			for _, key := range []string{node + "#" + strconv.Itoa(i), keyOf(at - 1), keyOf(at), keyOf(at + 1)} {
				if got, want := prefer(t, nodes, key, 4), slowly(nodes, key); !slices.Equal(got, want) {
					t.Errorf("Prefer by point %d of %s, key %q = %q, want %q", i, node, key, got, want)
				}
			}
			if got := prefer(t, nodes, keyOf(at), 1)[0]; i < api.Points && got != node {
				t.Errorf("Prefer at point %d of %s = %s", i, node, got)
			}
		}
	}
}

// P51: a#2 is the last point of these nodes, b#2 the first one.
func TestPreferGoesAround(t *testing.T) {
	nodes, keyOf := []string{"a", "b", "c"}, keyMaker(t)
	last, first := number("a#2"), number("b#2")
	for at, want := range map[uint32][]string{
		last - 1:      {"a", "b", "c"},
		last:          {"a", "b", "c"},
		last + 1:      {"b", "c", "a"},
		^uint32(0):    {"b", "c", "a"},
		0:             {"b", "c", "a"},
		first:         {"b", "c", "a"},
		1<<31 - 1:     {"a", "b", "c"},
		1 << 31:       {"a", "b", "c"},
		973996002:     {"c", "a", "b"},
		990773621:     {"c", "a", "b"},
		990773622:     {"a", "b", "c"},
		643489413:     {"b", "c", "a"},
		643489414:     {"c", "a", "b"},
		643489414 * 2: {"a", "b", "c"},
	} {
		if got := prefer(t, nodes, keyOf(at), 3); !slices.Equal(got, want) {
			t.Errorf("Prefer at %d = %q, want %q", at, got, want)
		}
	}
}

// P50: aaik and crj have the same eight numbers, turned around: crj's point 7 is aaik's point 0. So they stand by name, and by i they would not.
func TestPointsOfOneNumberStandByName(t *testing.T) {
	for i := range api.Points {
		if number("aaik#"+strconv.Itoa(i)) != number("crj#"+strconv.Itoa(7-i)) {
			t.Fatal("these names are of no use here")
		}
	}
	for _, nodes := range [][]string{{"crj", "aaik"}, {"aaik", "crj"}} {
		keys := keyed(100)
		for i := range api.Points {
			keys = append(keys, "crj#"+strconv.Itoa(i), "aaik#"+strconv.Itoa(i))
		}
		for _, key := range keys {
			if got := prefer(t, nodes, key, 2); !slices.Equal(got, []string{"aaik", "crj"}) {
				t.Errorf("Prefer(%q, %q, 2) = %q", nodes, key, got)
			}
			if got := prefer(t, append(nodes, "b", "c"), key, 4); !slices.Equal(got, slowly([]string{"b", "c", "crj", "aaik"}, key)) {
				t.Errorf("Prefer(%q and two more, %q, 4) = %q", nodes, key, got)
			}
		}
	}
}

// P51
func TestTheOrderOfNodesMakesNoDifference(t *testing.T) {
	nodes := append(named(12), "crj", "aaik")
	around := slices.Clone(nodes)
	for range len(nodes) {
		around = append(around[1:], around[0])
		back := slices.Clone(around)
		slices.Reverse(back)
		for _, key := range keyed(30) {
			want := prefer(t, nodes, key, 7)
			if got := prefer(t, around, key, 7); !slices.Equal(got, want) {
				t.Errorf("Prefer(%q, %q, 7) = %q, want %q", around, key, got, want)
			}
			if got := prefer(t, back, key, 7); !slices.Equal(got, want) {
				t.Errorf("Prefer(%q, %q, 7) = %q, want %q", back, key, got, want)
			}
		}
	}
}
