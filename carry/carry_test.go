package carry_test

import (
	"slices"
	"strconv"
	"strings"
	"testing"

	"shardkeep/api"
)

const maxTag = 1 << 40

// everyMove calls f with pairs of configurations of all sizes, with all members in common, some or none.
func everyMove(f func(name string, g given)) {
	for n := 1; n <= api.MaxShards; n++ {
		for k := 1; k <= n; k++ {
			for i, to := range []api.Config{next(0, n, k), next(0, n, 1), next(0, n, n), next(1, api.MaxShards+1-n, 1), next(12, 5, 3), next(12, 1, 1)} {
				g := ordinary()
				g.from, g.to = old(n, k), to
				f(strconv.Itoa(n)+", "+strconv.Itoa(k)+" to "+strconv.Itoa(i), g)
			}
		}
	}
}

// P111: nothing is there: it is done where enough are sealed, and not ahead.
func TestNothingIsFound(t *testing.T) {
	everyMove(func(name string, g given) {
		c := begun(t, g)
		sent(t, name+": Begin", c.Begin(), g.seals())
		sent(t, name+": sealed", g.hearSealed(t, c), nil)
		stands(t, name, c, "done")
		sent(t, name+": Begin behind it", c.Begin(), nil)
	})
}

// P111: the object goes over whole, whatever the sizes are.
func TestCarriesOfEverySize(t *testing.T) {
	tag := api.Tag{N: 3, Who: 5}
	everyMove(func(name string, g given) {
		for _, size := range []int{0, 1, g.from.K + 1, api.MaxText} {
			text := strings.Repeat("\x00\xffobject", api.MaxText)[:size]
			c := begun(t, g)
			sent(t, name+": Begin", c.Begin(), g.seals())
			sent(t, name+": sealed", g.hearSealed(t, c, split(versions(t, g.from, tag, text))...), g.keeps(t, tag, text))
			sent(t, name+": Begin behind the sealing", c.Begin(), nil)
			g.hearKept(t, c)
			doneWith(t, name, c, tag, text)
			sent(t, name+": Begin behind the end", c.Begin(), nil)
		}
	})
}

// P111: spelt out, of the example of the document: `abcd`, and of which each has a whole one then.
func TestCarrySpeltOut(t *testing.T) {
	g := given{op: 0, from: api.Config{N: 2, K: 1, Members: []string{"z", "a"}}, to: api.Config{N: 3, K: 2, Members: []string{"m", "a", "b"}}, key: "k"}
	c := begun(t, g)
	v := api.Version{Tag: api.Tag{N: 3, Who: 1}, Size: 4, S: api.Shard{At: 1, Text: "abcd"}}
	sent(t, "the first", c.Hear(g.sealed("a", v)), nil)
	l := c.Hear(g.sealed("z"))
	for i, want := range []string{"ab", "cd", "en"} {
		if len(l) != 3 || l[i].To != g.to.Members[i] || l[i].From != "mover" || l[i].Kind != "keep" || l[i].Key != "k" || l[i].Op != 0 || l[i].Config != 1 || l[i].Sealed ||
			len(l[i].L) != 1 || l[i].L[0] != (api.Version{Tag: v.Tag, Size: 4, S: api.Shard{At: i, Text: want}}) {
			t.Fatalf("sent %v", l)
		}
	}
}

// P111: a member of both has the shard of its number in each.
func TestAMemberOfBoth(t *testing.T) {
	g := ordinary()
	g.from, g.to = api.Config{N: 3, K: 3, Members: []string{"a", "b", "c"}}, api.Config{N: 3, K: 2, Members: []string{"c", "b", "d"}}
	c := begun(t, g)
	tag := api.Tag{N: 1}
	all := versions(t, g.from, tag, "abcdef")
	sent(t, "b", c.Hear(g.sealed("b", all[1])), nil)
	sent(t, "c", c.Hear(g.sealed("c", all[2])), nil)
	sent(t, "a", c.Hear(g.sealed("a", all[0])), g.keeps(t, tag, "abcdef"))
	passed(t, "of the old one", c, g.kept("a"))
	sent(t, "c", c.Hear(g.kept("c")), nil)
	passed(t, "of the old one", c, g.kept("a"))
	sent(t, "d", c.Hear(g.kept("d")), nil)
	stands(t, "two", c, "keeping")
	sent(t, "b", c.Hear(g.kept("b")), nil)
	doneWith(t, "three", c, tag, "abcdef")
}

// P111: what has too few shards is not found; an older object is, if it has enough.
func TestTooFewShards(t *testing.T) {
	g := ordinary()
	newest, older := versions(t, g.from, api.Tag{N: 9}, "the newest"), versions(t, g.from, api.Tag{N: 8, Who: 3}, "older")
	c := begun(t, g)
	sent(t, "the newest alone", g.hearSealed(t, c, newest[:1], newest[1:2], newest[:2]), nil)
	stands(t, "the newest alone", c, "done")

	c = begun(t, g)
	lists := [][]api.Version{{newest[0], older[0]}, older[1:2], nil, {older[3], newest[3]}}
	sent(t, "both", g.hearSealed(t, c, lists...), g.keeps(t, older[0].Tag, "older"))
	g.hearKept(t, c)
	doneWith(t, "both", c, older[0].Tag, "older")

	c = begun(t, g)
	lists[1] = []api.Version{older[1], newest[1]}
	sent(t, "enough of both", g.hearSealed(t, c, lists...), g.keeps(t, newest[0].Tag, "the newest"))
}

// P111: how many shards are enough is told by the old configuration, of what it told.
func TestShardsAreThoseOfTheOldOne(t *testing.T) {
	for _, x := range []struct {
		name  string
		to    api.Config
		count int
		found bool
	}{
		{"fewer are enough then", next(0, 5, 1), 2, false},
		{"as many", next(0, 5, 3), 3, true},
		{"more are enough then", next(0, 5, 5), 3, true},
	} {
		g := ordinary()
		g.to = x.to
		c := begun(t, g)
		l := g.hearSealed(t, c, split(versions(t, g.from, api.Tag{N: 1}, "object")[:x.count])...)
		if !x.found {
			sent(t, x.name, l, nil)
			stands(t, x.name, c, "done")
			continue
		}
		sent(t, x.name, l, g.keeps(t, api.Tag{N: 1}, "object"))
		stands(t, x.name, c, "keeping")
	}
}

// P111: what cannot be is no object.
func TestWhatCannotBe(t *testing.T) {
	g := ordinary()
	g.from = old(3, 1)
	c := begun(t, g)
	can := api.Version{Tag: api.Tag{N: 2}, Size: 2, S: api.Shard{At: 1, Text: "ab"}}
	l := []api.Version{can, can, can, can}
	l[0].Tag.N = maxTag + 1
	l[1].Tag.N, l[1].S.At = 5, 3
	l[2].Tag.N, l[2].S.Text = 4, "abc"
	l[3].Tag.N, l[3].Size = 3, -1
	sent(t, "keep", g.hearSealed(t, c, l, append(l, can)), g.keeps(t, api.Tag{N: 2}, "ab"))
	c = begun(t, g)
	sent(t, "nothing else", g.hearSealed(t, c, l, l), nil)
	stands(t, "nothing else", c, "done")
}

// P111: of one tag the list of the first member counts first, whoever was sealed first.
func TestListsStandInTheOrderOfMembers(t *testing.T) {
	g := ordinary()
	g.from = old(3, 1)
	tag := api.Tag{N: 4}
	texts := []string{"first", "other", "third"}
	for _, order := range [][]int{{0, 1}, {1, 0}, {0, 2}, {2, 0}, {1, 2}, {2, 1}} {
		c := begun(t, g)
		tell := func(i int) api.Version {
			return api.Version{Tag: tag, Size: 5, S: api.Shard{At: i, Text: texts[i]}}
		}
		sent(t, "the first", c.Hear(g.sealed(g.from.Members[order[0]], tell(order[0]))), nil)
		want := texts[slices.Min(order)]
		sent(t, "the second", c.Hear(g.sealed(g.from.Members[order[1]], tell(order[1]))), g.keeps(t, tag, want))
		g.hearKept(t, c)
		doneWith(t, "kept", c, tag, want)
	}
}

// P111: also the Size of a tag is that of the first member that told it.
func TestUnlikeSizes(t *testing.T) {
	g := ordinary()
	g.from = old(4, 2)
	three, four := versions(t, g.from, api.Tag{N: 4}, "abc"), versions(t, g.from, api.Tag{N: 4}, "wxyz")
	lists := [][]api.Version{{three[2]}, {four[1], four[3]}, {three[0]}, nil}
	for _, order := range [][]int{{0, 1, 2}, {2, 1, 0}, {1, 0, 2}, {1, 2, 0}} {
		c := begun(t, g)
		c.Hear(g.sealed(g.from.Members[order[0]], lists[order[0]]...))
		c.Hear(g.sealed(g.from.Members[order[1]], lists[order[1]]...))
		l := c.Hear(g.sealed(g.from.Members[order[2]], lists[order[2]]...))
		sent(t, "sealed", l, g.keeps(t, api.Tag{N: 4}, "abc"))
	}
	c := begun(t, g)
	sent(t, "one of each", g.hearSealed(t, c, three[:1], four[1:2], four[2:3]), nil)
	stands(t, "one of each", c, "done")
}

// P111: the tag stays as it is, at its edges, too; an object of no bytes is found.
func TestTheTagIsTheSame(t *testing.T) {
	g := ordinary()
	g.from = old(1, 1)
	for _, tag := range []api.Tag{{}, {N: 0, Who: 1}, {N: 1, Who: maxTag}, {N: maxTag, Who: 3}} {
		for _, text := range []string{"", "abc"} {
			c := begun(t, g)
			v := api.Version{Tag: tag, Size: len(text), S: api.Shard{Text: text}}
			sent(t, "sealed", c.Hear(g.sealed(g.from.Members[0], v)), g.keeps(t, tag, text))
			g.hearKept(t, c)
			doneWith(t, "kept", c, tag, text)
		}
	}
}

// P111: any members that are enough will do, in any order.
func TestAnyMembersAreEnough(t *testing.T) {
	g := ordinary()
	tag := api.Tag{N: 6, Who: 2}
	all := versions(t, g.from, tag, "an object")
	for first := range g.from.N {
		c := begun(t, g)
		for i := range 4 {
			at := (first + 3*i) % g.from.N
			l := c.Hear(g.sealed(g.from.Members[at], all[at]))
			if i < 3 {
				sent(t, "too few", l, nil)
				stands(t, "too few", c, "sealing")
				continue
			}
			sent(t, "enough", l, g.keeps(t, tag, "an object"))
		}
		for i := range 3 {
			stands(t, "too few have kept", c, "keeping")
			sent(t, "kept", c.Hear(g.kept(g.to.Members[(first+3*i)%g.to.N])), nil)
		}
		doneWith(t, "enough have kept", c, tag, "an object")
	}
}
