package ask_test

import (
	"math"
	"slices"
	"strconv"
	"strings"
	"testing"

	"shardkeep/api"
)

const maxTag = 1 << 40

// number is a version of which just N is told.
func number(n int) api.Version { return api.Version{Tag: api.Tag{N: n}} }

// P91: of all sizes: also where all are a quorum, or one is.
func TestPutOfEverySize(t *testing.T) {
	everySize(func(c api.Config) {
		g := ordinary()
		g.c = c
		name := "N " + strconv.Itoa(c.N) + ", K " + strconv.Itoa(c.K)
		a, err := g.put()
		begun(t, a, err)
		stands(t, name, a, "looking")
		sent(t, name+": Begin", a.Begin(), g.looks())
		tag := api.Tag{N: 1, Who: 2}
		sent(t, name+": told", g.hearTold(t, a), g.keeps(t, tag, "an object"))
		g.hearKept(t, a)
		doneWith(t, name, a, tag, "an object")
	})
}

// P91: the shard of each member, of objects of no bytes, few, and as many as there may be.
func TestPutOfTexts(t *testing.T) {
	everySize(func(c api.Config) {
		for _, size := range []int{0, 1, c.K, c.K + 1, api.MaxText} {
			g := ordinary()
			g.c, g.text = c, strings.Repeat("\x00\xffobject", api.MaxText)[:size]
			a, err := g.put()
			begun(t, a, err)
			tag := api.Tag{N: 5, Who: 2}
			sent(t, "keep", g.hearTold(t, a, []api.Version{number(4)}), g.keeps(t, tag, g.text))
			g.hearKept(t, a)
			doneWith(t, "kept", a, tag, g.text)
		}
	})
}

// P91: spelt out, of the example of the document.
func TestPutSpeltOut(t *testing.T) {
	g := given{who: 5, op: 0, c: api.Config{N: 3, K: 2, Members: []string{"z", "a", "m"}}, config: 0, key: "k", text: "abcd"}
	a, err := g.put()
	begun(t, a, err)
	l := g.hearTold(t, a)
	for i, want := range []string{"ab", "cd", "en"} {
		if len(l) != 3 || l[i].To != g.c.Members[i] || len(l[i].L) != 1 || l[i].L[0] != (api.Version{Tag: api.Tag{N: 1, Who: 5}, Size: 4, S: api.Shard{At: i, Text: want}}) {
			t.Fatalf("sent %v", l)
		}
	}
}

// P91
func TestTagOfAPut(t *testing.T) {
	for _, x := range []struct {
		name  string
		lists [][]api.Version
		want  int
	}{
		{"nothing", nil, 1},
		{"empty lists", [][]api.Version{{}, {}, {}}, 1},
		{"0", [][]api.Version{{number(0)}}, 1},
		{"1", [][]api.Version{{number(1)}}, 2},
		{"rising", [][]api.Version{{number(1), number(2), number(9)}}, 10},
		{"falling", [][]api.Version{{number(9), number(2), number(1)}}, 10},
		{"in the middle", [][]api.Version{{number(1)}, {number(2), number(9), number(3)}, {number(4)}}, 10},
		{"of the last", [][]api.Version{{number(1)}, {number(2)}, {number(9)}}, 10},
		{"just below the most", [][]api.Version{{number(maxTag - 1)}}, maxTag},
		{"the most", [][]api.Version{{number(maxTag)}, {number(7)}}, maxTag + 1},
		{"one more than the most", [][]api.Version{{number(maxTag + 1)}}, 1},
		{"far more", [][]api.Version{{number(math.MaxInt)}, {number(math.MaxInt - 1)}, {number(1 << 41)}}, 1},
		{"below 0", [][]api.Version{{number(-1)}, {number(math.MinInt)}}, 1},
		{"beside what is out of bounds", [][]api.Version{{number(math.MaxInt), number(3), number(-1)}, {number(maxTag + 1)}, {number(2)}}, 4},
		{"of anybody", [][]api.Version{{{Tag: api.Tag{N: 3, Who: 9}}}, {{Tag: api.Tag{N: 3, Who: 1}}}}, 4},
	} {
		g := ordinary()
		a, err := g.put()
		begun(t, a, err)
		sent(t, x.name, g.hearTold(t, a, x.lists...), g.keeps(t, api.Tag{N: x.want, Who: 2}, g.text))
	}
}

// P91: the N of a version counts whatever else it has, also where quorum.Best would pass it over, or one alone has it.
func TestAnyVersionsNumberCounts(t *testing.T) {
	for i, v := range []api.Version{
		{Tag: api.Tag{N: 6, Who: -1}},
		{Tag: api.Tag{N: 6, Who: maxTag + 1}},
		{Tag: api.Tag{N: 6, Who: math.MinInt}},
		{Tag: api.Tag{N: 6, Who: math.MaxInt}, Size: math.MaxInt},
		{Tag: api.Tag{N: 6}, Size: -1},
		{Tag: api.Tag{N: 6}, Size: api.MaxText + 1},
		{Tag: api.Tag{N: 6}, S: api.Shard{At: -1}},
		{Tag: api.Tag{N: 6}, S: api.Shard{At: math.MaxInt}},
		{Tag: api.Tag{N: 6}, Size: 2, S: api.Shard{Text: strings.Repeat("long", 1000)}},
	} {
		g := ordinary()
		a, err := g.put()
		begun(t, a, err)
		sent(t, strconv.Itoa(i), g.hearTold(t, a, nil, []api.Version{number(5), v}), g.keeps(t, api.Tag{N: 7, Who: 2}, g.text))
	}
}

// P91: the tag is the client's own.
func TestWhoOfAPut(t *testing.T) {
	for who := range api.MaxClients {
		g := ordinary()
		g.who = who
		a, err := g.put()
		begun(t, a, err)
		all := versions(t, g.c, api.Tag{N: 3, Who: 5}, "of another client")
		sent(t, "keep", g.hearTold(t, a, all[:1], all[1:2], all[2:]), g.keeps(t, api.Tag{N: 4, Who: who}, g.text))
		g.hearKept(t, a)
		doneWith(t, "kept", a, api.Tag{N: 4, Who: who}, g.text)
	}
}

// P91, P92: what comes when enough have told, or from who told already, does not change the tag.
func TestWhatIsToldTooLate(t *testing.T) {
	g := ordinary()
	g.c = config(5, 1)
	a, err := g.put()
	begun(t, a, err)
	members := g.c.Members
	sent(t, "the first", a.Hear(g.answer(members[4], "told", number(3))), nil)
	passed(t, "the first again", a, g.answer(members[4], "told", number(50)))
	sent(t, "the second", a.Hear(g.answer(members[0], "told", number(2))), nil)
	passed(t, "no member", a, g.answer("stranger", "told", number(60)))
	sent(t, "the third", a.Hear(g.answer(members[2], "told")), g.keeps(t, api.Tag{N: 4, Who: 2}, g.text))
	passed(t, "the fourth", a, g.answer(members[1], "told", number(70)))
	g.hearKept(t, a)
	doneWith(t, "kept", a, api.Tag{N: 4, Who: 2}, g.text)
}

// P91: any members that are enough will do, in any order; which of them tell is not which of them keep.
func TestAnyMembersAreEnough(t *testing.T) {
	g := ordinary()
	g.c = config(4, 2)
	for first := range g.c.N {
		for _, back := range []bool{false, true} {
			around := slices.Concat(g.c.Members[first:], g.c.Members[:first])
			if back {
				slices.Reverse(around)
			}
			a, err := g.put()
			begun(t, a, err)
			sent(t, "1", a.Hear(g.answer(around[0], "told", number(3))), nil)
			sent(t, "2", a.Hear(g.answer(around[1], "told", number(8))), nil)
			stands(t, "2", a, "looking")
			sent(t, "3", a.Hear(g.answer(around[2], "told", number(1))), g.keeps(t, api.Tag{N: 9, Who: 2}, g.text))
			sent(t, "4", a.Hear(g.answer(around[3], "kept")), nil)
			sent(t, "5", a.Hear(g.answer(around[0], "kept")), nil)
			stands(t, "5", a, "keeping")
			sent(t, "6", a.Hear(g.answer(around[1], "kept")), nil)
			doneWith(t, "6", a, api.Tag{N: 9, Who: 2}, g.text)
		}
	}
}
