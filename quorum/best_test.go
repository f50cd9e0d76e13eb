package quorum_test

import (
	"math"
	"math/rand"
	"slices"
	"strconv"
	"strings"
	"testing"

	"shardkeep/api"
	"shardkeep/coder"
	"shardkeep/quorum"
)

const maxTag = 1 << 40

// spread has a version of each member: its shard of the text.
func spread(t *testing.T, c api.Config, tag api.Tag, text string) []api.Version {
	t.Helper()
	shards, err := coder.Encode(c.N, c.K, text)
	if err != nil {
		t.Fatal(err)
	}
	l := make([]api.Version, c.N)
	for i, x := range shards {
		l[i] = api.Version{Tag: tag, Size: len(text), S: x}
	}
	return l
}

// each has a list of every version.
func each(versions ...api.Version) [][]api.Version {
	l := make([][]api.Version, len(versions))
	for i, v := range versions {
		l[i] = []api.Version{v}
	}
	return l
}

// changed has one version otherwise.
func changed(l []api.Version, i int, change func(v *api.Version)) []api.Version {
	l = slices.Clone(l)
	change(&l[i])
	return l
}

// best asks for a tag and an object.
func best(t *testing.T, name string, c api.Config, l [][]api.Version, tag api.Tag, text string) {
	t.Helper()
	gotTag, got, found, err := quorum.Best(c, l)
	if gotTag != tag || got != text || !found || err != nil {
		t.Errorf("%s: Best = %v, %q, %v, %v, want %v, %q", name, gotTag, got, found, err, tag, text)
	}
}

// nothing asks that nothing is found.
func nothing(t *testing.T, name string, c api.Config, l [][]api.Version) {
	t.Helper()
	tag, text, found, err := quorum.Best(c, l)
	if tag != (api.Tag{}) || text != "" || found || err != nil {
		t.Errorf("%s: Best = %v, %q, %v, %v, want nothing", name, tag, text, found, err)
	}
}

// P81
func TestBestOfNothing(t *testing.T) {
	everySize(func(c api.Config) {
		nothing(t, "nil", c, nil)
		for count := range c.N + 1 {
			nothing(t, "nil lists", c, make([][]api.Version, count))
			nothing(t, "empty lists", c, slices.Repeat([][]api.Version{{}}, count))
		}
	})
}

// P81: as many lists as there are members, and one more, whatever is in them.
func TestBestOfTooManyLists(t *testing.T) {
	everySize(func(c api.Config) {
		l := each(spread(t, c, api.Tag{N: 3, Who: 1}, "object")...)
		best(t, "N lists", c, l, api.Tag{N: 3, Who: 1}, "object")
		for _, many := range [][][]api.Version{append(slices.Clone(l), nil), append(slices.Clone(l), l[0]), make([][]api.Version, c.N+1), make([][]api.Version, 1000)} {
			tag, text, found, err := quorum.Best(c, many)
			told(t, strconv.Itoa(len(many))+" lists", err, api.ErrShape, -1)
			if tag != (api.Tag{}) || text != "" || found {
				t.Errorf("Best = %v, %q, %v beside an error", tag, text, found)
			}
		}
	})
}

// P81: any K shards, in any lists; one fewer are too few, also where they were told many times.
func TestBestNeedsKShards(t *testing.T) {
	tag := api.Tag{N: 7, Who: 2}
	everySize(func(c api.Config) {
		all := spread(t, c, tag, "some object")
		for first := range all {
			around := slices.Concat(all[first:], all[:first])
			best(t, "K lists", c, each(around[:c.K]...), tag, "some object")
			best(t, "one list", c, [][]api.Version{around[:c.K]}, tag, "some object")
			best(t, "the last list", c, append(make([][]api.Version, c.N-1), around[:c.K]), tag, "some object")
			few := around[:c.K-1]
			nothing(t, "one fewer", c, each(few...))
			nothing(t, "one fewer, many times", c, [][]api.Version{slices.Repeat(few, 5)})
			nothing(t, "one fewer, by each", c, slices.Repeat([][]api.Version{few}, c.N))
		}
	})
}

// P81: unlike in At is what counts, whatever else is unlike; of two of one At the first one told is taken.
func TestBestOfAShardTwice(t *testing.T) {
	c := config(4, 2)
	tag := api.Tag{N: 1}
	all := spread(t, c, tag, "abcd")
	other := changed(all, 0, func(v *api.Version) { v.S.Text = "zz" })
	nothing(t, "the same", c, each(all[0], all[0]))
	nothing(t, "another text", c, each(all[0], other[0]))
	best(t, "the right one first", c, [][]api.Version{{all[0], other[0]}, {all[1]}}, tag, "abcd")
	best(t, "the wrong one first", c, [][]api.Version{{other[0], all[0]}, {all[1]}}, tag, "zzcd")
	best(t, "the wrong one in an earlier list", c, [][]api.Version{{all[1], other[0]}, {all[0]}}, tag, "zzcd")
}

// P81: of more than K, those that were told first tell the object.
func TestBestTakesTheFirstTold(t *testing.T) {
	c := config(4, 2)
	tag := api.Tag{N: 1}
	all := spread(t, c, tag, "abcd")
	wrong := changed(all, 1, func(v *api.Version) { v.S.Text = "xy" })
	best(t, "wrong, among the first", c, each(wrong...), tag, "abxy")
	best(t, "wrong, behind the first", c, each(wrong[0], wrong[2], wrong[1], wrong[3]), tag, "abcd")
	best(t, "wrong, behind the first of one list", c, [][]api.Version{{wrong[3], wrong[2], wrong[1]}, {wrong[0]}}, tag, "abcd")
	best(t, "wrong, the last list", c, [][]api.Version{{wrong[0]}, nil, {wrong[3]}, {wrong[1]}}, tag, "abcd")
}

// P81
func TestBestIsTheGreatestTag(t *testing.T) {
	c := config(3, 2)
	rising := []api.Tag{{N: 0, Who: 0}, {N: 0, Who: 9}, {N: 2, Who: 0}, {N: 2, Who: 1}, {N: 2, Who: 10}, {N: 10, Who: 0}, {N: 10, Who: maxTag}, {N: maxTag, Who: 3}}
	for i, less := range rising {
		for _, more := range rising[i+1:] {
			a, b := spread(t, c, less, "less"), spread(t, c, more, "more, and longer")
			for _, l := range [][][]api.Version{
				{{a[0], b[0]}, {a[1], b[1]}}, {{b[0], a[0]}, {b[1], a[1]}}, {a, b}, {b, a}, {{a[2]}, {b[1], a[1]}, {b[2], b[1]}},
			} {
				best(t, "both", c, l, more, "more, and longer")
			}
			for _, l := range [][][]api.Version{
				{a, {b[0]}}, {{b[0]}, a}, {{b[0], a[0]}, {b[0], a[1]}, {b[0]}}, {{b[2], b[2], a[2], a[0]}},
			} {
				best(t, "too few of the greater", c, l, less, "less")
			}
		}
	}
}

// P81: that some are told of many tags does not help any of them.
func TestBestOfManyTags(t *testing.T) {
	c := config(3, 2)
	var l []api.Version
	for n := range 500 {
		l = append(l, spread(t, c, api.Tag{N: n, Who: n % 5}, "object "+strconv.Itoa(n))[n%3])
	}
	nothing(t, "one of each", c, [][]api.Version{l})
	for _, n := range []int{499, 0, 250} {
		own := spread(t, c, api.Tag{N: n, Who: n % 5}, "object "+strconv.Itoa(n))
		best(t, "one more", c, [][]api.Version{{own[(n+1)%3]}, l}, own[0].Tag, "object "+strconv.Itoa(n))
	}
}

// P81: of one tag the first one told that can be has the Size.
func TestBestOfUnlikeSizes(t *testing.T) {
	c := config(4, 2)
	tag := api.Tag{N: 5}
	three, four, six := spread(t, c, tag, "abc"), spread(t, c, tag, "wxyz"), spread(t, c, tag, "second")
	best(t, "3, of as many bytes", c, each(three[0], four[1], four[2], three[3]), tag, "abc")
	best(t, "4, of as many bytes", c, each(four[0], three[1], three[2], four[3]), tag, "wxyz")
	best(t, "other bytes", c, each(six[1], four[1], three[2], six[0]), tag, "second")
	nothing(t, "one of the first, all of others", c, [][]api.Version{{six[0]}, three, four})
	nothing(t, "the first twice", c, [][]api.Version{{six[0], three[1]}, {six[0]}, {three[2]}, {three[3]}})
	lesser := spread(t, c, api.Tag{N: 4}, "another size")
	best(t, "of a lesser tag", c, [][]api.Version{{six[0]}, three, lesser}, api.Tag{N: 4}, "another size")
	cannot := changed(six, 0, func(v *api.Version) { v.S.Text += "x" })
	best(t, "the first one cannot be", c, [][]api.Version{{cannot[0]}, three}, tag, "abc")
}

// edges are changes of a version that can be: behind some it can be too, behind others not.
func edges(c api.Config) (fine, wrong []func(v *api.Version)) {
	for _, n := range []int{0, 1, maxTag - 1, maxTag} {
		fine = append(fine, func(v *api.Version) { v.Tag.N = n }, func(v *api.Version) { v.Tag.Who = n })
	}
	for _, n := range []int{-1, -maxTag, math.MinInt, maxTag + 1, math.MaxInt} {
		wrong = append(wrong, func(v *api.Version) { v.Tag.N = n }, func(v *api.Version) { v.Tag.Who = n })
	}
	for _, size := range []int{-1, -c.K, math.MinInt, api.MaxText + 1, math.MaxInt} {
		wrong = append(wrong, func(v *api.Version) { v.Size = size },
			func(v *api.Version) { v.Size, v.S.Text = size, "" },
			func(v *api.Version) { v.Size, v.S.Text = size, strings.Repeat("s", (api.MaxText+c.K)/c.K) })
	}
	for _, at := range []int{-1, math.MinInt, c.N, c.N + 1, api.MaxShards, math.MaxInt} {
		wrong = append(wrong, func(v *api.Version) { v.S.At = at })
	}
	wrong = append(wrong,
		func(v *api.Version) { v.S.Text += "x" }, func(v *api.Version) { v.S.Text = v.S.Text[1:] }, func(v *api.Version) { v.S.Text = "" },
		func(v *api.Version) { v.S.Text = strings.Repeat("x", 1<<16) }, func(v *api.Version) { v.Size += c.K }, func(v *api.Version) { v.Size -= c.K })
	return fine, wrong
}

// P81: a version that cannot be neither counts nor stands in the way, wherever it was told.
func TestVersionsThatCannotBe(t *testing.T) {
	everySize(func(c api.Config) {
		all := spread(t, c, api.Tag{N: 4, Who: 1}, strings.Repeat("object", 5))
		_, wrong := edges(c)
		for i, change := range wrong {
			every := slices.Clone(all)
			for at := range every {
				change(&every[at])
			}
			name := "N " + strconv.Itoa(c.N) + ", K " + strconv.Itoa(c.K) + ", edge " + strconv.Itoa(i)
			nothing(t, name, c, [][]api.Version{every})
			nothing(t, name+", one for all", c, each(changed(all[:c.K], c.K-1, change)...))
			best(t, name+", ahead", c, [][]api.Version{slices.Concat(every, all[:c.K])}, all[0].Tag, strings.Repeat("object", 5))
			best(t, name+", behind", c, [][]api.Version{slices.Concat(all[c.N-c.K:], every)}, all[0].Tag, strings.Repeat("object", 5))
		}
	})
}

// P81
func TestVersionsThatCanJustBe(t *testing.T) {
	everySize(func(c api.Config) {
		fine, _ := edges(c)
		for _, change := range fine {
			all := spread(t, c, api.Tag{N: 4, Who: 1}, "object")
			for i := range all {
				change(&all[i])
			}
			best(t, "tag", c, each(all...), all[0].Tag, "object")
		}
		for _, size := range []int{0, 1, c.K - 1, c.K, c.K + 1, 2*c.K + 1, api.MaxText - 1, api.MaxText} {
			text := strings.Repeat("\x00\xffx", api.MaxText)[:size]
			all := spread(t, c, api.Tag{}, text)
			best(t, "the first K", c, each(all[:c.K]...), api.Tag{}, text)
			best(t, "the last K", c, each(all[c.N-c.K:]...), api.Tag{}, text)
		}
	})
}

// P81: an object of no bytes is found, too; its shards have none.
func TestBestOfAnObjectOfNoBytes(t *testing.T) {
	c := config(3, 2)
	tag := api.Tag{N: 2, Who: 5}
	all := spread(t, c, tag, "")
	best(t, "all", c, each(all...), tag, "")
	best(t, "K", c, each(all[1], all[2]), tag, "")
	nothing(t, "one", c, each(all[1], all[1]))
	nothing(t, "with bytes", c, each(all[1], changed(all, 0, func(v *api.Version) { v.S.Text = "x" })[0]))
	lesser := spread(t, c, api.Tag{N: 1}, "lesser")
	best(t, "beside a lesser tag", c, [][]api.Version{lesser, all}, tag, "")
}

// slowBest goes through all tags from the greatest on, and through all that was told for each of them.
func slowBest(t *testing.T, c api.Config, l [][]api.Version) (api.Tag, string, bool) {
	t.Helper()
	var can []api.Version
	for _, v := range slices.Concat(l...) {
		n, who := v.Tag.N, v.Tag.Who
		if n < 0 || n > maxTag || who < 0 || who > maxTag || v.Size < 0 || v.Size > 1000 || v.S.At < 0 || v.S.At >= c.N {
			continue
		}
		if over := len(v.S.Text)*c.K - v.Size; over >= 0 && over < c.K {
			can = append(can, v)
		}
	}
	var tags []api.Tag
	for _, v := range can {
		tags = append(tags, v.Tag)
	}
	slices.SortFunc(tags, func(a, b api.Tag) int {
		if a.N != b.N {
			return b.N - a.N
		}
		return b.Who - a.Who
	})
	for _, tag := range tags {
		size := -1
		var shards []api.Shard
		for _, v := range can {
			if v.Tag == tag && size < 0 {
				size = v.Size
			}
			if v.Tag == tag && v.Size == size {
				shards = append(shards, v.S)
			}
		}
		if text, err := coder.Decode(c.N, c.K, size, shards); err == nil {
			return tag, text, true
		}
	}
	return api.Tag{}, "", false
}

// P81: of many mixtures of what can be and what cannot.
func TestBestOfMixtures(t *testing.T) {
	random := rand.New(rand.NewSource(8))
	found := 0
	for range 20000 {
		n := 1 + random.Intn(5)
		c := config(n, 1+random.Intn(n))
		l := make([][]api.Version, random.Intn(n+1))
		for i := range l {
			for range random.Intn(8) {
				text := []string{"", "a", "abc", "wxyz", "longer"}[random.Intn(5)]
				tag := api.Tag{N: random.Intn(3), Who: random.Intn(2)}
				v := spread(t, c, tag, text)[random.Intn(n)]
				if _, wrong := edges(c); random.Intn(3) == 0 {
					v.S.Text += "x"
					wrong[random.Intn(len(wrong))](&v)
				}
				l[i] = append(l[i], v)
			}
		}
		tag, text, is := slowBest(t, c, l)
		if is {
			found++
			best(t, "mixture", c, l, tag, text)
		} else {
			nothing(t, "mixture", c, l)
		}
	}
	if found < 2000 || found > 18000 {
		t.Errorf("something was found %d times: the mixtures are of no use", found)
	}
}
