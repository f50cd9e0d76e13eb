package ring_test

import (
	"errors"
	"math"
	"strings"
	"testing"

	"shardkeep/api"
	"shardkeep/ring"
)

// told asks for an error, and its place: with -1 it is bare.
func told(t *testing.T, name string, err, want error, at int) {
	t.Helper()
	var fault *api.Fault
	if at < 0 {
		if err != want || errors.As(err, &fault) {
			t.Errorf("%s: told %#v, want %v bare", name, err, want)
		}
		return
	}
	if !errors.As(err, &fault) || fault.Err != want || fault.At != at {
		t.Errorf("%s: told %#v, want %v at %d", name, err, want, at)
	}
}

// wrong are nodes of no ring.
type wrong struct {
	name  string
	nodes []string
	want  error
	at    int
}

func wrongNodes() []wrong {
	long := strings.Repeat("n", api.MaxName)
	return []wrong{
		{"nil", nil, api.ErrBound, -1},
		{"no node", []string{}, api.ErrBound, -1},
		{"one too many", append(named(api.MaxNodes), "more"), api.ErrBound, -1},
		{"one too many, of no names", make([]string, api.MaxNodes+1), api.ErrBound, -1},
		{"far too many", make([]string, 1000), api.ErrBound, -1},
		{"no byte", []string{""}, api.ErrName, 0},
		{"no byte, later", []string{"a", "b", ""}, api.ErrName, 2},
		{"no byte, as the last of all", append(named(api.MaxNodes-1), ""), api.ErrName, api.MaxNodes - 1},
		{"one byte too many", []string{"a", long + "n"}, api.ErrName, 1},
		{"letters of two bytes", []string{"ä"}, api.ErrName, 0},
		{"a great letter", []string{"a", "nOde"}, api.ErrName, 1},
		{"a wrong byte at the end", []string{"node."}, api.ErrName, 0},
		{"a wrong byte at the front", []string{" node"}, api.ErrName, 0},
		{"what a point's name has", []string{"a", "a#0"}, api.ErrName, 1},
		{"twice", []string{"a", "a"}, api.ErrExist, 1},
		{"twice, later", []string{"a", "b", "c", "b"}, api.ErrExist, 3},
		{"twice, as the last of all", append(named(api.MaxNodes-1), named(1)[0]), api.ErrExist, api.MaxNodes - 1},
		{"twice, of all bytes", []string{long, "a", long}, api.ErrExist, 2},
		{"three times", []string{"a", "a", "a"}, api.ErrExist, 1},
		{"twice, ahead of no name", []string{"a", "a", "A"}, api.ErrExist, 1},
		{"no name, ahead of twice", []string{"a", "A", "a"}, api.ErrName, 1},
		{"no name, twice", []string{"a", "A", "A"}, api.ErrName, 1},
	}
}

// P50, P51
func TestCheckOfRings(t *testing.T) {
	long := strings.Repeat("n", api.MaxName)
	for count := 1; count <= api.MaxNodes; count++ {
		told(t, "as many as there may be", ring.Check(named(count)), nil, -1)
	}
	for _, nodes := range [][]string{
		{"a"}, {"-"}, {"--", "-"}, {"0"}, {"9", "z"}, {"007", "7"}, {long}, {long, long[1:]}, {"abcdefghijklm", "nopqrstuvwxyz", "-0123456789-"}, {"a", "aa", "ab", "b", "ba"},
	} {
		told(t, strings.Join(nodes, " "), ring.Check(nodes), nil, -1)
	}
}

// P50: of all bytes just these.
func TestCheckOfEachByte(t *testing.T) {
	for b := range 256 {
		c := string([]byte{byte(b)})
		if strings.Contains("abcdefghijklmnopqrstuvwxyz0123456789-", c) {
			told(t, c, ring.Check([]string{"other", "node" + c, c + "node", c}), nil, -1)
			continue
		}
		for _, name := range []string{c, "n" + c, c + "n", "n" + c + "n"} {
			told(t, name, ring.Check([]string{"a", name}), api.ErrName, 1)
		}
	}
}

// P50: a name is what may be the one node of a ring.
func TestIsName(t *testing.T) {
	names := []string{"", "a", "-", "node-1", "a b", "é", "\xff", strings.Repeat("n", api.MaxName), strings.Repeat("n", api.MaxName+1)}
	for b := range 256 {
		names = append(names, string([]byte{byte(b)}), "n"+string([]byte{byte(b)}))
	}
	for _, name := range names {
		if ring.IsName(name) != (ring.Check([]string{name}) == nil) {
			t.Errorf("%q: %v", name, ring.IsName(name))
		}
	}
}

// P51
func TestCheckOfWrongNodes(t *testing.T) {
	for _, c := range wrongNodes() {
		told(t, c.name, ring.Check(c.nodes), c.want, c.at)
	}
}

// P51: also where n is wrong as well.
func TestPreferOfWrongNodes(t *testing.T) {
	for _, c := range wrongNodes() {
		for _, n := range []int{0, 1, 2, 17, -1, math.MaxInt, math.MinInt} {
			l, err := ring.Prefer(c.nodes, "key", n)
			told(t, c.name, err, c.want, c.at)
			if len(l) != 0 {
				t.Errorf("%s: %q beside an error", c.name, l)
			}
		}
	}
}

// P51
func TestPreferOfWrongCounts(t *testing.T) {
	for count := 1; count <= api.MaxNodes; count++ {
		for n, want := range map[int]error{0: nil, count: nil, count + 1: api.ErrFew, count + 2: api.ErrFew, math.MaxInt: api.ErrFew, -1: api.ErrBound, -count: api.ErrBound, math.MinInt: api.ErrBound} {
			l, err := ring.Prefer(named(count), "key", n)
			told(t, "Prefer", err, want, -1)
			if want == nil && len(l) != n || want != nil && len(l) != 0 {
				t.Errorf("Prefer of %d nodes, %d: %q, %v", count, n, l, err)
			}
		}
	}
}
