package hold_test

import (
	"math"
	"slices"
	"strings"
	"sync"
	"testing"
	"unsafe"

	"shardkeep/api"
	"shardkeep/hold"
	"shardkeep/plain"
	"shardkeep/sums"
)

// answers are what calls tell that change nothing.
type answers struct {
	versions       []api.Version
	tag            api.Tag
	is, sealed     bool
	keys           []string
	count          int
	text           string
	code, at, load int
}

func asked(h *hold.Hold, key string) answers {
	var a answers
	var err error
	a.versions = h.Get(key)
	a.tag, a.is = h.Last(key)
	a.sealed, a.keys, a.count = h.Sealed(), h.Keys(), h.Count()
	a.text, err = h.Save()
	a.code, a.at = plain.Code(err)
	_, err = hold.Load(a.text)
	a.load, _ = plain.Code(err)
	return a
}

func (a answers) same(b answers) bool {
	return slices.Equal(a.versions, b.versions) && a.tag == b.tag && a.is == b.is && a.sealed == b.sealed &&
		slices.Equal(a.keys, b.keys) && a.count == b.count && a.text == b.text && a.code == b.code && a.at == b.at && a.load == b.load
}

// P1: that the test ends is what it asks.
func TestEveryCallEnds(t *testing.T) {
	fine, wrong := edges()
	long := strings.Repeat("\xff\x00", 1<<18)
	sealed := filled(t, 5)
	sealed.Seal()
	for _, h := range []*hold.Hold{{}, filled(t, 5), filled(t, api.MaxHeld), sealed} {
		for _, key := range []string{"", "a", "k", "A", "\xff", long} {
			for _, v := range slices.Concat(fine, wrong) {
				h.Put(key, v)
			}
			for _, keep := range []int{math.MinInt, -1, math.MaxInt, 2, 1, 0} {
				h.Trim(key, keep)
				asked(h, key)
			}
		}
		h.Wipe()
		h.Seal()
	}
	for _, s := range []string{"", long, sums.Seal(long), sums.Seal(strings.Repeat("0:", 1<<18)), sums.Seal("0:" + strings.Repeat(line("a", "1:2:1:1:", "s"), 1<<15))} {
		hold.Load(s)
	}
}

// P1: a hold that Load answers beside an error is nil, and holds nothing.
func TestTheHoldBesideAnErrorHoldsNothing(t *testing.T) {
	h, err := hold.Load("")
	told(t, "Load", err, api.ErrText)
	for range 2 {
		has(t, h, "k")
		holds(t, h, 0)
		if h.Sealed() {
			t.Error("it is sealed")
		}
		told(t, "Put", h.Put("k", version(1, 1, "s")), api.ErrFull)
		told(t, "Put of no name", h.Put("K", version(1, 1, "s")), api.ErrName)
		told(t, "Put out of bounds", h.Put("k", version(-1, 1, "s")), api.ErrBound)
		for keep, want := range map[int]error{-1: api.ErrBound, 0: nil, 1: nil} {
			gone, err := h.Trim("k", keep)
			told(t, "Trim", err, want)
			if gone != 0 {
				t.Errorf("Trim = %d", gone)
			}
		}
		if s := saved(t, h); s != saved(t, &hold.Hold{}) {
			t.Errorf("saved %q", s)
		}
		h.Seal()
		h.Wipe()
	}
}

// P2: also of one hold that many ask at the same time.
func TestAnswersHangOnNothingElse(t *testing.T) {
	shared := filled(t, 30)
	want := asked(shared, "b")
	var told [16][2]answers
	var wait sync.WaitGroup
	for i := range told {
		wait.Go(func() {
			other := &hold.Hold{}
			other.Put("b", version(i, i, "of another hold"))
			own := &hold.Hold{}
			for number := range 30 {
				own.Put(numbered(number))
			}
			other.Seal()
			told[i] = [2]answers{asked(shared, "b"), asked(own, "b")}
		})
	}
	wait.Wait()
	for i, got := range told {
		if !got[0].same(want) || !got[1].same(want) {
			t.Errorf("worker %d was told otherwise", i)
		}
	}
}

// P2: a map is gone through in any order, and no answer shows it; nor does one show in which order versions came.
func TestAnswersHaveOneOrder(t *testing.T) {
	var keys []string
	for i := range 20 {
		keys = append(keys, string(rune('a'+i*7%20)))
	}
	first := answers{}
	for turn := range 20 {
		h := &hold.Hold{}
		for i := range keys {
			key := keys[(i+turn)%len(keys)]
			put(t, h, key, version(2, 0, key), version(1, turn%2*9, key))
			h.Trim(key, 1)
			put(t, h, key, version(0, 3, key))
		}
		got := asked(h, "e")
		if turn == 0 {
			first = got
		}
		if !got.same(first) || !slices.IsSorted(got.keys) || len(got.keys) != len(keys) {
			t.Errorf("turn %d: told %v, want %v", turn, got, first)
		}
	}
}

// P3, P5: errors are bare, of their numbers, with nothing beside them, and change nothing.
func TestErrorsByNumbers(t *testing.T) {
	full, sealed := filled(t, api.MaxHeld), filled(t, api.MaxHeld)
	sealed.Seal()
	for _, c := range []struct {
		name string
		h    *hold.Hold
		call func(h *hold.Hold) error
		code int
	}{
		{"sealed", sealed, func(h *hold.Hold) error { return h.Put("a", version(900, 0, "s")) }, 10},
		{"no name", full, func(h *hold.Hold) error { return h.Put("A", version(900, 0, "s")) }, 4},
		{"out of bounds", full, func(h *hold.Hold) error { return h.Put("a", version(-1, 0, "s")) }, 2},
		{"of a tag that is there", full, func(h *hold.Hold) error { return h.Put("a", version(0, 0, "s")) }, 6},
		{"full", full, func(h *hold.Hold) error { return h.Put("a", version(900, 0, "s")) }, 7},
		{"full, of a new key", full, func(h *hold.Hold) error { return h.Put("d", version(900, 0, "s")) }, 7},
		{"keep below 0", full, func(h *hold.Hold) error { _, err := h.Trim("a", -1); return err }, 2},
		{"no text", full, func(*hold.Hold) error { _, err := hold.Load("abc"); return err }, 1},
		{"no seal", full, func(*hold.Hold) error { _, err := hold.Load("abcd"); return err }, 9},
		{"no hold", full, func(*hold.Hold) error { _, err := hold.Load(sums.Seal("abcd")); return err }, 1},
		{"the same", full, func(h *hold.Hold) error { return h.Put("a", version(0, 0, "shard 0")) }, 0},
	} {
		before := asked(c.h, "a")
		if code, at := plain.Code(c.call(c.h)); code != c.code || at != -1 {
			t.Errorf("%s: error %d at %d, want %d at -1", c.name, code, at, c.code)
		}
		if !asked(c.h, "a").same(before) {
			t.Errorf("%s: something has changed", c.name)
		}
	}
}

// P3: of a hold that is new, no error leaves a trace.
func TestErrorsLeaveNoTrace(t *testing.T) {
	h := &hold.Hold{}
	want := asked(h, "k")
	_, wrong := edges()
	for _, v := range wrong {
		h.Put("k", v)
		h.Put("K", v)
		h.Trim("k", -1)
	}
	if got := asked(h, "k"); !got.same(want) {
		t.Errorf("told %v, want %v", got, want)
	}
}

// P3, P4: what is answered is written into, and grown; nothing of it shows.
func TestListsOfAnswersAreNewMemory(t *testing.T) {
	h := filled(t, 31)
	h.Trim("a", 7)
	want := asked(h, "a")
	for range 3 {
		first, second, keys := h.Get("a"), h.Get("a"), h.Keys()
		clear(first)
		clear(keys)
		if !slices.Equal(second, want.versions) {
			t.Error("two answers share memory")
		}
		_ = append(second, version(5, 5, "more"))
		_ = append(keys, "more")
		if !asked(h, "a").same(want) {
			t.Error("what was written into an answer shows")
		}
	}
	answered := h.Get("a")
	put(t, h, "a", version(0, 9, "ahead of all"), version(1000, 9, "behind all"))
	h.Trim("a", 2)
	if !slices.Equal(answered, want.versions) {
		t.Error("what was put and trimmed later shows in an answer")
	}
}

// P4: a text whose bytes are changed later, as no text's are by the language's own means.
func TestTextsAreNotKept(t *testing.T) {
	text := func(s string) (string, []byte) {
		b := []byte(s)
		return unsafe.String(&b[0], len(b)), b
	}
	h := &hold.Hold{}
	change := func(call func(key string, v api.Version)) {
		key, keyBytes := text("key")
		shard, shardBytes := text("shard")
		call(key, version(h.Count(), 0, shard))
		copy(keyBytes, "yek")
		copy(shardBytes, "drahs")
	}
	call := func(key string, v api.Version) { told(t, "Put", h.Put(key, v), nil) }
	change(call)
	change(call)
	change(call)
	change(func(key string, _ api.Version) { h.Trim(key, 2) })
	has(t, h, "key", version(1, 0, "shard"), version(2, 0, "shard"))
	holds(t, h, 2, "key")
	saving, savingBytes := text(saved(t, h))
	again, err := hold.Load(saving)
	clear(savingBytes)
	if err != nil || !same(h, again) {
		t.Errorf("a later change of what was loaded shows: %v, %v", again, err)
	}
}

// overlap tells whether two texts share memory.
func overlap(a, b string) bool {
	if a == "" || b == "" {
		return false
	}
	atA, atB := uintptr(unsafe.Pointer(unsafe.StringData(a))), uintptr(unsafe.Pointer(unsafe.StringData(b)))
	return atA < atB+uintptr(len(b)) && atB < atA+uintptr(len(a))
}

// P4
func TestTextsOfAnswersAreNewMemory(t *testing.T) {
	h := filled(t, 12)
	for range 2 {
		var texts []string
		for range 2 {
			texts = append(texts, h.Keys()...)
			for _, key := range []string{"a", "b", "c"} {
				for _, v := range h.Get(key) {
					texts = append(texts, v.S.Text)
				}
			}
			texts = append(texts, saved(t, h))
		}
		if len(texts) != 32 {
			t.Fatalf("%d texts: the hold is of no use here", len(texts))
		}
		for i, a := range texts {
			for _, b := range texts[i+1:] {
				if overlap(a, b) {
					t.Errorf("%q and %q share memory", a, b)
				}
			}
		}
		h = reloaded(t, h)
	}
}
