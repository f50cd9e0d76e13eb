package hold_test

import (
	"math"
	"slices"
	"testing"

	"shardkeep/api"
	"shardkeep/hold"
)

// P61
func TestTrimKeepsTheGreatest(t *testing.T) {
	all := []api.Version{version(1, 9, "a"), version(2, 0, "b"), version(2, 1, "c"), version(10, 0, "d"), version(11, 0, "e")}
	for _, keep := range []int{0, 1, 2, 3, 4, 5, 6, 100, math.MaxInt} {
		h := &hold.Hold{}
		put(t, h, "k", all[3], all[0], all[4], all[2], all[1])
		put(t, h, "other", all...)
		want := max(0, len(all)-keep)
		if gone, err := h.Trim("k", keep); gone != want || err != nil {
			t.Errorf("Trim(%d) = %d, %v, want %d", keep, gone, err, want)
		}
		has(t, h, "k", all[want:]...)
		has(t, h, "other", all...)
		if got := h.Count(); got != 2*len(all)-want {
			t.Errorf("Trim(%d): Count() = %d", keep, got)
		}
		if gone, err := h.Trim("k", keep); gone != 0 || err != nil {
			t.Errorf("Trim(%d) again = %d, %v", keep, gone, err)
		}
		has(t, h, "k", all[want:]...)
	}
}

// P61: whatever the key is.
func TestTrimOfNoVersions(t *testing.T) {
	h := &hold.Hold{}
	for range 2 {
		for _, key := range []string{"", "i", "K", "\xff", "a name that is too long for one"} {
			for _, keep := range []int{0, 1, math.MaxInt} {
				if gone, err := h.Trim(key, keep); gone != 0 || err != nil {
					t.Errorf("Trim(%q, %d) = %d, %v", key, keep, gone, err)
				}
			}
		}
		put(t, h, "k", version(1, 1, "s"))
	}
	has(t, h, "k", version(1, 1, "s"))
	holds(t, h, 1, "k")
}

// P61
func TestTrimBelow0(t *testing.T) {
	h := filled(t, 9)
	for _, key := range []string{"a", "none", "", "A"} {
		for _, keep := range []int{-1, -2, -9, math.MinInt} {
			gone, err := h.Trim(key, keep)
			told(t, "Trim", err, api.ErrBound)
			if gone != 0 {
				t.Errorf("Trim(%q, %d): %d beside an error", key, keep, gone)
			}
		}
	}
	holds(t, h, 9, "a", "b", "c")
}

// P61
func TestKeysWhoseVersionsAreAllTrimmed(t *testing.T) {
	h := &hold.Hold{}
	for _, key := range []string{"c", "a", "-", "b", "9", "aa", "z"} {
		put(t, h, key, version(1, 0, "first"), version(2, 0, "second"))
	}
	holds(t, h, 14, "-", "9", "a", "aa", "b", "c", "z")
	for _, key := range []string{"b", "-", "z"} {
		if gone, err := h.Trim(key, 0); gone != 2 || err != nil {
			t.Errorf("Trim(%q, 0) = %d, %v", key, gone, err)
		}
		has(t, h, key)
	}
	h.Trim("a", 1)
	holds(t, h, 7, "9", "a", "aa", "c")
	put(t, h, "b", version(1, 0, "another one of a tag that went"))
	has(t, h, "b", version(1, 0, "another one of a tag that went"))
	put(t, h, "a", version(1, 0, "also another one"))
	has(t, h, "a", version(1, 0, "also another one"), version(2, 0, "second"))
	holds(t, h, 9, "9", "a", "aa", "b", "c")
}

// P61
func TestNothingIsPutBehindASeal(t *testing.T) {
	h := filled(t, 6)
	before := h.Get("a")
	if h.Sealed() {
		t.Error("it is sealed ahead of the sealing")
	}
	for range 2 {
		h.Seal()
		if !h.Sealed() {
			t.Error("it is not sealed")
		}
		told(t, "a new one", h.Put("a", version(100, 0, "s")), api.ErrOld)
		told(t, "of a new key", h.Put("new", version(100, 0, "s")), api.ErrOld)
		told(t, "one that is there", h.Put("a", before[0]), api.ErrOld)
		told(t, "another one of its tag", h.Put("a", version(before[0].Tag.N, before[0].Tag.Who, "s")), api.ErrOld)
		has(t, h, "a", before...)
		holds(t, h, 6, "a", "b", "c")
	}
}

// P61: a seal is in the way of Put alone.
func TestASealedHoldIsTrimmed(t *testing.T) {
	h := filled(t, 6)
	h.Seal()
	if gone, err := h.Trim("a", 1); gone != 1 || err != nil {
		t.Errorf("Trim = %d, %v", gone, err)
	}
	if gone, err := h.Trim("b", 0); gone != 2 || err != nil {
		t.Errorf("Trim = %d, %v", gone, err)
	}
	holds(t, h, 3, "a", "c")
	if !h.Sealed() {
		t.Error("it is open behind a trim")
	}
	told(t, "behind a trim", h.Put("b", version(1, 0, "s")), api.ErrOld)
}

// P61: also one that held nothing, or was sealed with nothing in it.
func TestWipeIsAsAtTheBeginning(t *testing.T) {
	sealed, full, both := &hold.Hold{}, filled(t, api.MaxHeld), filled(t, api.MaxHeld)
	sealed.Seal()
	both.Seal()
	for _, h := range []*hold.Hold{{}, sealed, full, both} {
		for range 2 {
			h.Wipe()
			has(t, h, "a")
			holds(t, h, 0)
			if h.Sealed() {
				t.Error("it is sealed behind a wipe")
			}
		}
		put(t, h, "a", version(0, 0, "another one of a tag that went"))
		has(t, h, "a", version(0, 0, "another one of a tag that went"))
		holds(t, h, 1, "a")
		for i := range api.MaxHeld - 1 {
			put(t, h, "b", version(i, 0, ""))
		}
		told(t, "full again", h.Put("b", version(1000, 0, "")), api.ErrFull)
	}
}

// P61: any numbers, those that no hold takes too.
func TestLess(t *testing.T) {
	numbers := []int{math.MinInt, -maxTag, -1, 0, 1, 2, maxTag, maxTag + 1, math.MaxInt}
	var rising []api.Tag
	for _, n := range numbers {
		for _, who := range numbers {
			rising = append(rising, api.Tag{N: n, Who: who})
		}
	}
	for i, a := range rising {
		for j, b := range rising {
			if got, want := hold.Less(a, b), i < j; got != want {
				t.Errorf("Less(%v, %v) = %v", a, b, got)
			}
		}
	}
}

// slow is a hold as a mere list.
type slow struct {
	keys     []string
	versions []api.Version
	sealed   bool
}

func (s *slow) put(key string, v api.Version) error {
	if s.sealed {
		return api.ErrOld
	}
	for i, other := range s.versions {
		if s.keys[i] == key && other == v {
			return nil
		}
		if s.keys[i] == key && other.Tag == v.Tag {
			return api.ErrExist
		}
	}
	if len(s.versions) == api.MaxHeld {
		return api.ErrFull
	}
	s.keys, s.versions = append(s.keys, key), append(s.versions, v)
	return nil
}

// get takes the least of what is left, again and again.
func (s *slow) get(key string) []api.Version {
	var l []api.Version
	for i, v := range s.versions {
		if s.keys[i] != key {
			continue
		}
		at := 0
		for at < len(l) && (l[at].Tag.N < v.Tag.N || l[at].Tag.N == v.Tag.N && l[at].Tag.Who < v.Tag.Who) {
			at++
		}
		l = slices.Insert(l, at, v)
	}
	return l
}

func (s *slow) trim(key string, keep int) int {
	rest, l := slow{sealed: s.sealed}, s.get(key)
	l = l[max(0, len(l)-keep):]
	for i, v := range s.versions {
		if s.keys[i] != key || slices.Contains(l, v) {
			rest.keys, rest.versions = append(rest.keys, s.keys[i]), append(rest.versions, v)
		}
	}
	gone := len(s.versions) - len(rest.versions)
	*s = rest
	return gone
}

// P60, P61, P63: many calls one behind the other, in an order that hangs on seed alone.
func TestManyCallsAsAMereListTellsThem(t *testing.T) {
	keys := []string{"a", "b", "key-of-16-bytes-", "-", "0"}
	for seed := range uint32(40) {
		h, s := &hold.Hold{}, &slow{}
		next := func(below int) int {
			seed = seed*1664525 + 1013904223
			return int(seed>>8) % below
		}
		for range 400 {
			key := keys[next(len(keys))]
			switch next(40) {
			case 0, 1, 2, 3:
				keep := next(12)
				if gone, err := h.Trim(key, keep); gone != s.trim(key, keep) || err != nil {
					t.Fatalf("Trim(%q, %d) = %d, %v", key, keep, gone, err)
				}
			case 4:
				h = reloaded(t, h)
			case 5:
				if next(8) == 0 {
					h.Seal()
					s.sealed = true
				}
			case 6:
				if next(4) == 0 {
					h.Wipe()
					*s = slow{}
				}
			default:
				v := version(next(7), next(4), []string{"", "x"}[next(2)])
				told(t, "Put", h.Put(key, v), s.put(key, v))
			}
			with := slices.Clone(s.keys)
			slices.Sort(with)
			holds(t, h, len(s.versions), slices.Compact(with)...)
			for _, key := range keys {
				has(t, h, key, s.get(key)...)
			}
			if h.Sealed() != s.sealed {
				t.Fatalf("Sealed() = %v", h.Sealed())
			}
		}
	}
}
