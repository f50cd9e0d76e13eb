package ask_test

import (
	"slices"
	"strconv"
	"strings"
	"testing"

	"shardkeep/api"
	"shardkeep/quorum"
)

// P91: of all sizes: also where all are a quorum, or one is. It ends where enough have told nothing, and not ahead.
func TestGetOfNothing(t *testing.T) {
	everySize(func(c api.Config) {
		g := ordinary()
		g.c = c
		a, err := g.get()
		begun(t, a, err)
		sent(t, "Begin", a.Begin(), g.looks())
		sent(t, "told", g.hearTold(t, a), nil)
		stands(t, "told", a, "done")
	})
}

// P91
func TestGetOfEverySize(t *testing.T) {
	tag := api.Tag{N: 3, Who: 5}
	everySize(func(c api.Config) {
		for _, size := range []int{0, 1, c.K, api.MaxText} {
			g := ordinary()
			g.c = c
			text := strings.Repeat("\x00\xffobject", api.MaxText)[:size]
			name := "N " + strconv.Itoa(c.N) + ", K " + strconv.Itoa(c.K) + ", " + strconv.Itoa(size) + " bytes"
			a, err := g.get()
			begun(t, a, err)
			var lists [][]api.Version
			for _, v := range versions(t, c, tag, text) {
				lists = append(lists, []api.Version{v})
			}
			sent(t, name, g.hearTold(t, a, lists...), g.keeps(t, tag, text))
			g.hearKept(t, a)
			doneWith(t, name, a, tag, text)
		}
	})
}

// P91: what has too few shards is not found; an older object is, if it has enough.
func TestGetOfTooFewShards(t *testing.T) {
	g := ordinary()
	g.c = config(5, 3)
	newest, older := versions(t, g.c, api.Tag{N: 9}, "the newest"), versions(t, g.c, api.Tag{N: 8, Who: 3}, "older")
	a, err := g.get()
	begun(t, a, err)
	sent(t, "the newest alone", g.hearTold(t, a, newest[:1], newest[1:2], newest[:2]), nil)
	stands(t, "the newest alone", a, "done")

	a, err = g.get()
	begun(t, a, err)
	sent(t, "both", g.hearTold(t, a, []api.Version{newest[0], older[0]}, older[1:2], nil, []api.Version{older[3], newest[3]}), g.keeps(t, older[0].Tag, "older"))
	g.hearKept(t, a)
	doneWith(t, "both", a, older[0].Tag, "older")

	a, err = g.get()
	begun(t, a, err)
	sent(t, "enough of both", g.hearTold(t, a, []api.Version{newest[0], older[0]}, []api.Version{older[1], newest[1]}, nil, []api.Version{older[3], newest[3]}), g.keeps(t, newest[0].Tag, "the newest"))
}

// P91: what cannot be is no object.
func TestGetOfWhatCannotBe(t *testing.T) {
	g := ordinary()
	g.c = config(3, 1)
	a, err := g.get()
	begun(t, a, err)
	can := api.Version{Tag: api.Tag{N: 2}, Size: 2, S: api.Shard{At: 1, Text: "ab"}}
	l := []api.Version{can, can, can, can}
	l[0].Tag.N = maxTag + 1
	l[1].Tag.N, l[1].S.At = 5, 3
	l[2].Tag.N, l[2].S.Text = 4, "abc"
	l[3].Tag.N, l[3].Size = 3, -1
	sent(t, "keep", g.hearTold(t, a, l, append(l, can)), g.keeps(t, api.Tag{N: 2}, "ab"))
}

// P91: of one tag the list of the first member counts first, whoever told first.
func TestListsStandInTheOrderOfMembers(t *testing.T) {
	g := ordinary()
	g.c = config(3, 1)
	tag := api.Tag{N: 4}
	texts := []string{"first", "other", "third"}
	for _, order := range [][]int{{0, 1}, {1, 0}, {0, 2}, {2, 0}, {1, 2}, {2, 1}} {
		a, err := g.get()
		begun(t, a, err)
		tell := func(i int) api.Version {
			return api.Version{Tag: tag, Size: 5, S: api.Shard{At: i, Text: texts[i]}}
		}
		sent(t, "the first", a.Hear(g.answer(g.c.Members[order[0]], "told", tell(order[0]))), nil)
		want := texts[slices.Min(order)]
		sent(t, "the second", a.Hear(g.answer(g.c.Members[order[1]], "told", tell(order[1]))), g.keeps(t, tag, want))
		g.hearKept(t, a)
		doneWith(t, "kept", a, tag, want)
	}
}

// P91: also the Size of a tag is that of the first member that told it.
func TestSizesStandInTheOrderOfMembers(t *testing.T) {
	g := ordinary()
	g.c = config(4, 2)
	three, four := versions(t, g.c, api.Tag{N: 4}, "abc"), versions(t, g.c, api.Tag{N: 4}, "wxyz")
	lists := [][]api.Version{{three[2]}, {four[1], four[3]}, {three[0]}, nil}
	for _, order := range [][]int{{0, 1, 2}, {2, 1, 0}, {1, 0, 2}, {1, 2, 0}} {
		a, err := g.get()
		begun(t, a, err)
		a.Hear(g.answer(g.c.Members[order[0]], "told", lists[order[0]]...))
		a.Hear(g.answer(g.c.Members[order[1]], "told", lists[order[1]]...))
		l := a.Hear(g.answer(g.c.Members[order[2]], "told", lists[order[2]]...))
		sent(t, "told", l, g.keeps(t, api.Tag{N: 4}, "abc"))
	}
	a, err := g.get()
	begun(t, a, err)
	a.Hear(g.answer(g.c.Members[3], "told"))
	a.Hear(g.answer(g.c.Members[2], "told", three[0], three[1]))
	sent(t, "told", a.Hear(g.answer(g.c.Members[1], "told", four[1], four[3])), g.keeps(t, api.Tag{N: 4}, "wxyz"))
}

// P91: a Get writes what it found, with the tag that it has, not with its own.
func TestGetKeepsTheTag(t *testing.T) {
	g := ordinary()
	g.c = config(1, 1)
	for _, tag := range []api.Tag{{}, {N: 0, Who: 1}, {N: 1, Who: maxTag}, {N: maxTag, Who: 3}} {
		a, err := g.get()
		begun(t, a, err)
		v := api.Version{Tag: tag, Size: 3, S: api.Shard{Text: "abc"}}
		sent(t, "told", a.Hear(g.answer(g.c.Members[0], "told", v)), g.keeps(t, tag, "abc"))
		stands(t, "told", a, "keeping")
		sent(t, "kept", a.Hear(g.answer(g.c.Members[0], "kept")), nil)
		doneWith(t, "kept", a, tag, "abc")
	}
}

// P91: an object of no bytes is found, and nothing is not.
func TestGetOfNoBytes(t *testing.T) {
	g := ordinary()
	a, err := g.get()
	begun(t, a, err)
	all := versions(t, g.c, api.Tag{}, "")
	sent(t, "told", g.hearTold(t, a, all[:1], nil, all[2:]), g.keeps(t, api.Tag{}, ""))
	g.hearKept(t, a)
	doneWith(t, "kept", a, api.Tag{}, "")
}

// P91: a shard that is wrong is mended by what is sent: it is the one that quorum.Best's object has.
func TestGetSendsShardsOfOneObject(t *testing.T) {
	g := ordinary()
	g.c = config(5, 2)
	all := versions(t, g.c, api.Tag{N: 2}, "an object")
	all[3].S.Text = "wrong"
	lists := [][]api.Version{all[:1], all[1:2], nil, all[3:4]}
	_, text, found, err := quorum.Best(g.c, lists)
	if text != "an object" || !found || err != nil {
		t.Fatalf("%q, %v, %v", text, found, err)
	}
	a, err := g.get()
	begun(t, a, err)
	sent(t, "told", g.hearTold(t, a, lists...), g.keeps(t, api.Tag{N: 2}, "an object"))
}
