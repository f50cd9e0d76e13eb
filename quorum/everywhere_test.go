package quorum_test

import (
	"math"
	"slices"
	"strings"
	"sync"
	"testing"
	"unsafe"

	"shardkeep/api"
	"shardkeep/plain"
	"shardkeep/quorum"
)

// answers are what all calls tell.
type answers struct {
	enough int
	both   []string
	tag    api.Tag
	text   string
	found  bool
	codes  [8]int
}

func asked(c api.Config, a, b []string, l [][]api.Version) answers {
	var out answers
	var errs [4]error
	errs[0] = quorum.Check(c)
	out.enough, errs[1] = quorum.Enough(c)
	out.both, errs[2] = quorum.Meet(c, a, b)
	out.tag, out.text, out.found, errs[3] = quorum.Best(c, l)
	for i, err := range errs {
		out.codes[2*i], out.codes[2*i+1] = plain.Code(err)
	}
	return out
}

func (a answers) same(b answers) bool {
	return a.enough == b.enough && slices.Equal(a.both, b.both) && a.tag == b.tag && a.text == b.text && a.found == b.found && a.codes == b.codes
}

// ordinary is a configuration of which two lists meet in three members, and something is found.
func ordinary(t *testing.T) (c api.Config, a, b []string, l [][]api.Version) {
	t.Helper()
	c = config(5, 3)
	l = each(spread(t, c, api.Tag{N: 2, Who: 1}, "an ordinary object")...)
	for i, v := range spread(t, c, api.Tag{N: 9, Who: 9}, "told by few")[:2] {
		l[i] = append(l[i], v)
	}
	return c, slices.Clone(c.Members[:4]), slices.Clone(c.Members[1:]), l
}

// P1: that the test ends is what it asks.
func TestEveryCallEnds(t *testing.T) {
	long := strings.Repeat("\xff\x00", 1<<16)
	numbers := []int{math.MinInt, -1, 0, 1, 3, api.MaxShards, math.MaxInt}
	var lists [][][]api.Version
	for _, n := range numbers {
		v := api.Version{Tag: api.Tag{N: n, Who: n}, Size: n, S: api.Shard{At: n, Text: long[:max(0, min(n, 1<<16))]}}
		lists = append(lists, nil, [][]api.Version{nil, {v}, {{}, v}}, [][]api.Version{slices.Repeat([]api.Version{v}, 1000)}, make([][]api.Version, 1<<12))
	}
	for _, n := range numbers {
		for _, k := range numbers {
			for _, members := range [][]string{nil, {}, {""}, {"a"}, {long}, {"a", "a"}, {"a", "b", "c"}, named(12), make([]string, 1<<12)} {
				c := api.Config{N: n, K: k, Members: members}
				for _, l := range lists {
					asked(c, members, nil, l)
				}
				asked(c, nil, members, nil)
				asked(c, []string{long, ""}, members, nil)
				asked(c, slices.Repeat(members, 100), slices.Repeat(members, 100), nil)
			}
		}
	}
}

// P1: very many versions, of one tag each, or of one tag.
func TestBestOfVeryMuchEnds(t *testing.T) {
	c := config(12, 12)
	var unlike, same []api.Version
	for i := range 100000 {
		unlike = append(unlike, api.Version{Tag: api.Tag{N: i / 11}, Size: 12, S: api.Shard{At: i % 11, Text: "x"}})
		same = append(same, api.Version{Tag: api.Tag{N: 1}, Size: 12, S: api.Shard{At: i % 11, Text: "x"}})
	}
	nothing(t, "very many tags", c, [][]api.Version{unlike})
	nothing(t, "very many of one tag", c, slices.Repeat([][]api.Version{same}, c.N))
}

// P2: also of one configuration and lists that many ask for at the same time.
func TestAnswersHangOnNothingElse(t *testing.T) {
	c, a, b, l := ordinary(t)
	want := asked(c, a, b, l)
	if !want.found || want.tag.N != 2 || len(want.both) != 3 {
		t.Fatalf("told %v", want)
	}
	var got [16][2]answers
	var wait sync.WaitGroup
	for i := range got {
		wait.Go(func() {
			asked(api.Config{N: i, K: 1, Members: named(i)}, nil, a, nil)
			got[i][0] = asked(c, a, b, l)
			asked(config(5, 1), b, []string{"none"}, l)
			got[i][1] = asked(c, a, b, l)
		})
	}
	wait.Wait()
	for i, both := range got {
		if !both[0].same(want) || !both[1].same(want) {
			t.Errorf("worker %d was told otherwise", i)
		}
	}
}

// P2: a map is gone through in any order, and no answer shows it.
func TestBestHasOneAnswer(t *testing.T) {
	c := config(4, 2)
	var l []api.Version
	for n := range 40 {
		for who := range 3 {
			l = append(l, spread(t, c, api.Tag{N: n * 7 % 40, Who: who}, strings.Repeat("x", n))...)
		}
	}
	for range 50 {
		best(t, "many tags", c, [][]api.Version{l}, api.Tag{N: 39, Who: 2}, strings.Repeat("x", 17))
	}
}

// P3, P5: errors by their numbers, bare but where a place is told; of several the one that is named first.
func TestErrorsByNumbers(t *testing.T) {
	good := config(3, 2)
	bound, shape, name, exist := config(3, 4), config(3, 2), config(3, 2), config(3, 2)
	bound.Members = []string{"A", "A"}
	shape.Members = []string{"A", "A"}
	name.Members = []string{"a", "A", "a"}
	exist.Members = []string{"a", "b", "a"}
	stranger := []string{good.Members[0], "x"}
	many := make([][]api.Version, 4)
	for _, x := range []struct {
		name  string
		c     api.Config
		codes [8]int
	}{
		{"bound", bound, [8]int{2, -1, 2, -1, 2, -1, 2, -1}},
		{"shape", shape, [8]int{3, -1, 3, -1, 3, -1, 3, -1}},
		{"name", name, [8]int{4, 1, 4, 1, 4, 1, 4, 1}},
		{"exist", exist, [8]int{6, 2, 6, 2, 6, 2, 6, 2}},
		{"none", good, [8]int{0, -1, 0, -1, 5, 1, 3, -1}},
	} {
		if got := asked(x.c, nil, stranger, many); got.codes != x.codes {
			t.Errorf("%s: errors and places %v, want %v", x.name, got.codes, x.codes)
		}
	}
}

// P3: what lies behind a length is neither read nor written.
func TestWhatLiesBehindIsNotThere(t *testing.T) {
	c, a, b, l := ordinary(t)
	want := asked(c, a, b, l)
	members := append(slices.Clone(c.Members), "more", "more")
	longA, longB := append(slices.Clone(a), "none"), append(slices.Clone(b), c.Members[0], "none")
	behind := spread(t, c, api.Tag{N: 100}, "behind all")
	longL := make([][]api.Version, 0, 20)
	for i, list := range l {
		longL = append(longL, append(slices.Clone(list), behind[i])[:len(list)])
	}
	_ = append(longL, behind)
	got := asked(api.Config{N: c.N, K: c.K, Members: members[:c.N]}, longA[:len(a)], longB[:len(b)], longL)
	if !got.same(want) {
		t.Errorf("told %v, want %v", got, want)
	}
	if members[c.N] != "more" || longA[len(a)] != "none" || longB[len(b)] != c.Members[0] || longL[0][:3][2] != behind[0] || !slices.Equal(longL[:c.N+1][c.N], behind) {
		t.Error("written behind a length")
	}
}

// P4
func TestWhatIsHandedOverIsOnlyReadAndNotKept(t *testing.T) {
	c, a, b, l := ordinary(t)
	c2, a2, b2, l2 := ordinary(t)
	want := asked(c, a, b, l)
	if !slices.Equal(c.Members, c2.Members) || !slices.Equal(a, a2) || !slices.Equal(b, b2) || !slices.EqualFunc(l, l2, slices.Equal) {
		t.Error("written into")
	}
	for i := range c.Members {
		c.Members[i] = "gone"
	}
	clear(a)
	clear(b)
	for _, list := range l {
		clear(list)
	}
	clear(l)
	if got := asked(c2, a2, b2, l2); !got.same(want) {
		t.Errorf("a later change shows: %v, want %v", got, want)
	}
}

// overlap tells whether two texts share memory.
func overlap(a, b string) bool {
	if a == "" || b == "" {
		return false
	}
	atA, atB := uintptr(unsafe.Pointer(unsafe.StringData(a))), uintptr(unsafe.Pointer(unsafe.StringData(b)))
	return atA < atB+uintptr(len(b)) && atB < atA+uintptr(len(a))
}

// P4
func TestAnswersAreNewMemory(t *testing.T) {
	for _, k := range []int{1, 3} {
		_, a, b, _ := ordinary(t)
		c := config(5, k)
		l := each(spread(t, c, api.Tag{N: 1}, "an ordinary object")...)
		texts := slices.Concat(c.Members, a, b)
		for _, list := range l {
			texts = append(texts, list[0].S.Text)
		}
		first, second := asked(c, a, b, l), asked(c, a, b, l)
		made := append(slices.Concat(first.both, second.both), first.text, second.text)
		if len(made) != 8 || first.text == "" {
			t.Fatalf("told %v: of no use here", first)
		}
		for i, x := range made {
			for _, y := range slices.Concat(texts, made[i+1:]) {
				if overlap(x, y) {
					t.Errorf("K %d: %q and %q share memory", k, x, y)
				}
			}
		}
		clear(first.both)
		_ = append(first.both, "more")
		if !asked(c, a, b, l).same(second) {
			t.Error("what was written into an answer shows")
		}
	}
}

// P4: texts whose bytes are changed later, as no text's are by the language's own means.
func TestTextsAreNotKept(t *testing.T) {
	c, a, b, l := ordinary(t)
	want := asked(c, a, b, l)
	var all [][]byte
	text := func(s string) string {
		bytes := []byte(s)
		all = append(all, bytes)
		return unsafe.String(&bytes[0], len(bytes))
	}
	for _, names := range [][]string{c.Members, a, b} {
		for i, name := range names {
			names[i] = text(name)
		}
	}
	for _, list := range l {
		for i, v := range list {
			list[i].S.Text = text(v.S.Text)
		}
	}
	got := asked(c, a, b, l)
	for _, bytes := range all {
		clear(bytes)
	}
	if !got.same(want) {
		t.Errorf("a later change shows: %v, want %v", got, want)
	}
}
