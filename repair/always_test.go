package repair_test

import (
	"math/rand/v2"
	"strconv"
	"strings"
	"testing"

	"shardkeep/api"
	"shardkeep/hold"
	"shardkeep/repair"
)

// P132: every choice of K members, of every N and K.
func TestAnyKBringAllBack(t *testing.T) {
	everySize(func(c api.Config) {
		all := spread(t, c, api.Tag{N: 4, Who: 5}, "an object of "+strconv.Itoa(c.N)+" shards")
		for set := range 1 << c.N {
			if len(members(c.N, set)) != c.K {
				continue
			}
			l := holding(t, all, set)
			mended(t, "any K", c, l, c.N-c.K)
			for i, h := range l {
				has(t, "any K", h, all[i])
			}
		}
	})
}

// anyText has bytes of all kinds.
func anyText(r *rand.Rand) string {
	size := r.IntN(40)
	if r.IntN(10) == 0 {
		size = api.MaxText - r.IntN(3)
	}
	var b strings.Builder
	for range size {
		b.WriteByte(byte(r.UintN(256)))
	}
	return b.String()
}

// P132: as many as may be lost are lost, again and again, of an object that is mended each time.
func TestMendedAgainAndAgain(t *testing.T) {
	r := rand.New(rand.NewPCG(13, 1))
	lost := 0
	for range 300 {
		n := 1 + r.IntN(api.MaxShards)
		c := config(n, 1+r.IntN(n))
		all := spread(t, c, api.Tag{N: r.IntN(9), Who: r.IntN(9)}, anyText(r))
		l := holding(t, all, 1<<n-1)
		for range 20 {
			stands(t, "mended", c, l, n-c.K)
			gone := r.Perm(n)[:r.IntN(n-c.K+1)]
			for _, i := range gone {
				l[i] = &hold.Hold{}
			}
			stands(t, "lost", c, l, n-c.K-len(gone))
			mended(t, "lost", c, l, len(gone))
			lost += len(gone)
		}
		for i, h := range l {
			has(t, "at the end", h, all[i])
		}
	}
	if lost < 6000 {
		t.Errorf("%d were lost: of no use", lost)
	}
}

// P132: one object behind the other is put to some of the members; the newest that K have comes back to all.
func TestTheNewestThatKHaveComesBack(t *testing.T) {
	r := rand.New(rand.NewPCG(13, 2))
	back, older := 0, 0
	for range 2000 {
		n := 1 + r.IntN(api.MaxShards)
		c := config(n, 1+r.IntN(n))
		l := empty(n)
		var best []api.Version
		for number := range 1 + r.IntN(8) {
			all := spread(t, c, api.Tag{N: number, Who: r.IntN(3)}, anyText(r))
			set := r.IntN(1 << n)
			for _, i := range members(n, set) {
				put(t, l[i], all[i])
			}
			if len(members(n, set)) >= c.K {
				best = all
			} else if best != nil {
				older++
			}
		}
		if _, err := repair.Mend(c, key, l); err != nil {
			t.Fatal(err)
		}
		missing(t, "mended", c, l)
		if best == nil {
			falls(t, "nothing has K", c, l)
			continue
		}
		back++
		stands(t, "mended", c, l, n-c.K)
		for i, h := range l {
			if !holds(h, best[i]) {
				t.Fatalf("N %d, K %d: member %d does not have %v", n, c.K, i, best[i])
			}
		}
	}
	if back < 500 || older < 500 {
		t.Errorf("%d came back, %d behind which there was a newer one: of no use", back, older)
	}
}

func holds(h *hold.Hold, v api.Version) bool {
	for _, x := range h.Get(key) {
		if x == v {
			return true
		}
	}
	return false
}
