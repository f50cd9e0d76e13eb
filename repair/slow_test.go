package repair_test

import (
	"math/rand/v2"
	"slices"
	"testing"

	"shardkeep/api"
	"shardkeep/coder"
	"shardkeep/hold"
	"shardkeep/plain"
	"shardkeep/quorum"
	"shardkeep/repair"
)

// slowShard has what a member is to have, worked out for it alone.
func slowShard(t *testing.T, c api.Config, l []*hold.Hold, member int) (api.Version, bool) {
	t.Helper()
	var told [][]api.Version
	for _, h := range l {
		told = append(told, h.Get(key))
	}
	tag, text, found, err := quorum.Best(c, told)
	if err != nil {
		t.Fatal(err)
	}
	if !found {
		return api.Version{}, false
	}
	all, err := coder.Encode(c.N, c.K, text)
	if err != nil {
		t.Fatal(err)
	}
	// Of those at the other end: by any K it is the same one.
	s, err := coder.Rebuild(c.N, c.K, len(text), member, all[c.N-c.K:])
	if err != nil {
		t.Fatal(err)
	}
	return api.Version{Tag: tag, Size: len(text), S: s}, true
}

// slowMend mends copies, one member after the other, and tells what all three calls are to tell.
func slowMend(t *testing.T, c api.Config, l []*hold.Hold) (lost []int, mended int, code int, stand int, found bool) {
	t.Helper()
	var want []api.Version
	for i := range l {
		v, is := slowShard(t, c, l, i)
		if !is {
			return nil, 0, 0, 0, false
		}
		want = append(want, v)
	}
	for i, h := range l {
		if !holds(h, want[i]) {
			lost = append(lost, i)
		}
	}
	stand = max(0, c.N-len(lost)-c.K)
	for _, i := range lost {
		if l[i] == nil {
			continue
		}
		if code, _ := plain.Code(l[i].Put(key, want[i])); code != 0 {
			return lost, 0, code, stand, true
		}
		mended++
	}
	return lost, mended, 0, stand, true
}

// copies share nothing with what they were made of.
func copies(t *testing.T, l []*hold.Hold) []*hold.Hold {
	t.Helper()
	made := make([]*hold.Hold, len(l))
	for i, h := range l {
		if h == nil {
			continue
		}
		made[i] = &hold.Hold{}
		for _, k := range h.Keys() {
			for _, v := range h.Get(k) {
				if err := made[i].Put(k, v); err != nil {
					t.Fatal(err)
				}
			}
		}
		if h.Sealed() {
			made[i].Seal()
		}
	}
	return made
}

func sameHolds(a, b []*hold.Hold) bool {
	return slices.EqualFunc(a, b, func(a, b *hold.Hold) bool {
		if a == nil || b == nil {
			return a == b
		}
		same := slices.Equal(a.Keys(), b.Keys()) && a.Sealed() == b.Sealed() && a.Count() == b.Count()
		for _, k := range a.Keys() {
			same = same && slices.Equal(a.Get(k), b.Get(k))
		}
		return same
	})
}

// anyHold has versions, most of them a member's own; some are another's, or wrong; it may be full, or sealed, or none.
func anyHold(t *testing.T, r *rand.Rand, c api.Config, at int, texts []string) *hold.Hold {
	t.Helper()
	if r.IntN(8) == 0 {
		return nil
	}
	h := &hold.Hold{}
	for n, text := range texts {
		if r.IntN(3) == 0 {
			continue
		}
		v := spread(t, c, api.Tag{N: n / 2, Who: n % 2}, text)[at]
		switch r.IntN(25) {
		case 0:
			v.S.At = r.IntN(api.MaxShards)
		case 1:
			v.S.Text += "x"
		case 2:
			v.Size = max(0, v.Size-1)
		case 3:
			v = spread(t, c, v.Tag, text)[r.IntN(c.N)]
		case 4:
			v = spread(t, c, v.Tag, "another text")[at]
		}
		put(t, h, v)
	}
	if r.IntN(12) == 0 {
		fill(t, h, api.MaxHeld)
	}
	if r.IntN(12) == 0 {
		h.Seal()
	}
	return h
}

// P130, P131: many mixtures, against the slow way.
func TestMixtures(t *testing.T) {
	r := rand.New(rand.NewPCG(13, 3))
	var codes [13]int
	nothing, mendedSome, sound := 0, 0, 0
	for range 6000 {
		n := 1 + r.IntN(6)
		c := config(n, 1+r.IntN(n))
		texts := []string{"", "a", "abc", "wxyz", "longer text"}[:1+r.IntN(5)]
		l := make([]*hold.Hold, n)
		for i := range l {
			l[i] = anyHold(t, r, c, i, texts)
		}
		before, slow := copies(t, l), copies(t, l)
		lost, count, code, stand, found := slowMend(t, c, slow)
		missing(t, "mixture", c, l, lost...)
		if found {
			stands(t, "mixture", c, l, stand)
		} else {
			falls(t, "mixture", c, l)
			nothing++
		}
		if !sameHolds(l, before) {
			t.Fatal("Missing or Stand has changed something")
		}
		got, err := repair.Mend(c, key, l)
		gotCode, at := plain.Code(err)
		if got != count || gotCode != code || at != -1 {
			t.Fatalf("Mend = %d, %v, want %d, error %d", got, err, count, code)
		}
		if !sameHolds(l, slow) {
			t.Fatal("mended otherwise")
		}
		codes[code]++
		if count > 0 {
			mendedSome++
		}
		if found && len(lost) == 0 {
			sound++
		}
	}
	if nothing < 300 || mendedSome < 500 || sound < 300 || codes[6] < 200 || codes[7] < 100 || codes[10] < 100 {
		t.Errorf("%d found nothing, %d mended, %d sound, errors %v: of no use", nothing, mendedSome, sound, codes)
	}
}
