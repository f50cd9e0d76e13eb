package hold_test

import (
	"errors"
	"math"
	"slices"
	"strconv"
	"strings"
	"testing"

	"shardkeep/api"
	"shardkeep/hold"
)

const maxTag = 1 << 40

// version of an object whose shard is its text.
func version(n, who int, text string) api.Version {
	return api.Version{Tag: api.Tag{N: n, Who: who}, Size: len(text), S: api.Shard{At: 1, Text: text}}
}

// told asks for an error, bare.
func told(t *testing.T, name string, err, want error) {
	t.Helper()
	var fault *api.Fault
	if err != want || errors.As(err, &fault) {
		t.Errorf("%s: told %#v, want %v bare", name, err, want)
	}
}

// put asks that versions are taken.
func put(t *testing.T, h *hold.Hold, key string, versions ...api.Version) {
	t.Helper()
	for _, v := range versions {
		if err := h.Put(key, v); err != nil {
			t.Fatalf("Put(%q, %v) = %v", key, v, err)
		}
	}
}

// has asks what there is of a key.
func has(t *testing.T, h *hold.Hold, key string, want ...api.Version) {
	t.Helper()
	if got := h.Get(key); !slices.Equal(got, want) {
		t.Errorf("Get(%q) = %v, want %v", key, got, want)
	}
	tag, is := h.Last(key)
	if len(want) == 0 && (is || tag != api.Tag{}) {
		t.Errorf("Last(%q) = %v, %v, want none", key, tag, is)
	}
	if len(want) > 0 && (!is || tag != want[len(want)-1].Tag) {
		t.Errorf("Last(%q) = %v, %v, want %v", key, tag, is, want[len(want)-1].Tag)
	}
}

// holds asks for keys, and how many versions there are.
func holds(t *testing.T, h *hold.Hold, count int, keys ...string) {
	t.Helper()
	if got := h.Keys(); !slices.Equal(got, keys) {
		t.Errorf("Keys() = %q, want %q", got, keys)
	}
	if got := h.Count(); got != count {
		t.Errorf("Count() = %d, want %d", got, count)
	}
}

// numbered is a version of one of three keys.
func numbered(i int) (string, api.Version) {
	return []string{"a", "b", "c"}[i%3], version(i, i%4, "shard "+strconv.Itoa(i))
}

// filled has as many versions, of three keys.
func filled(t *testing.T, count int) *hold.Hold {
	t.Helper()
	h := &hold.Hold{}
	for i := range count {
		key, v := numbered(i)
		put(t, h, key, v)
	}
	return h
}

// orders are all ways to put numbers below count in order.
func orders(count int) [][]int {
	if count == 0 {
		return [][]int{{}}
	}
	var l [][]int
	for _, order := range orders(count - 1) {
		for at := range count {
			l = append(l, slices.Insert(slices.Clone(order), at, count-1))
		}
	}
	return l
}

// P60
func TestAZeroValueHoldsNothingAndIsOpen(t *testing.T) {
	var h hold.Hold
	has(t, &h, "k")
	holds(t, &h, 0)
	if h.Sealed() {
		t.Error("it is sealed")
	}
	put(t, &h, "k", version(1, 2, "a"))
	has(t, &h, "k", version(1, 2, "a"))
	holds(t, &h, 1, "k")
}

// P60: whatever the order in which they come.
func TestVersionsStandByTag(t *testing.T) {
	want := []api.Version{version(0, 7, "a"), version(2, 0, "e"), version(2, 1, "b"), version(2, 10, "d"), version(10, 0, "c"), version(maxTag, 0, "")}
	for _, order := range orders(len(want)) {
		h := &hold.Hold{}
		for i, at := range order {
			put(t, h, "k", want[at])
			if h.Count() != i+1 {
				t.Errorf("Count() = %d behind %d versions", h.Count(), i+1)
			}
		}
		has(t, h, "k", want...)
	}
}

// P60: by N first, and Who counts only of one N.
func TestTagsOfOneNStandByWho(t *testing.T) {
	h := &hold.Hold{}
	for n := 3; n >= 0; n-- {
		for _, who := range []int{5, 0, maxTag, 2} {
			put(t, h, "k", version(n, who, "s"))
		}
	}
	var want []api.Version
	for n := range 4 {
		for _, who := range []int{0, 2, 5, maxTag} {
			want = append(want, version(n, who, "s"))
		}
	}
	has(t, h, "k", want...)
}

// P60: a key's versions are its own, also of one tag.
func TestKeysHaveTheirOwnVersions(t *testing.T) {
	h := &hold.Hold{}
	put(t, h, "k", version(1, 1, "of k"))
	put(t, h, "kk", version(1, 1, "of kk"), version(0, 0, ""))
	put(t, h, "-", version(1, 1, "of -"))
	has(t, h, "k", version(1, 1, "of k"))
	has(t, h, "kk", version(0, 0, ""), version(1, 1, "of kk"))
	has(t, h, "-", version(1, 1, "of -"))
	for _, key := range []string{"", "K", "kkk", "k ", "\x00"} {
		has(t, h, key)
	}
	holds(t, h, 4, "-", "k", "kk")
}

// P60
func TestAVersionIsKeptWithAllItsFields(t *testing.T) {
	h := &hold.Hold{}
	want := []api.Version{
		{},
		{Tag: api.Tag{N: 1, Who: 2}, Size: 3, S: api.Shard{At: 4, Text: "\x00\xff:5 ä"}},
		{Tag: api.Tag{N: maxTag, Who: maxTag}, Size: api.MaxText, S: api.Shard{At: api.MaxShards - 1, Text: strings.Repeat("x", api.MaxText)}},
	}
	put(t, h, "k", want...)
	has(t, h, "k", want...)
}

// edges are versions at the ends of what may be, and one beyond.
func edges() (fine, wrong []api.Version) {
	add := func(l *[]api.Version, change func(v *api.Version)) {
		v := version(1, 1, "s")
		change(&v)
		*l = append(*l, v)
	}
	for _, n := range []int{0, 1, maxTag - 1, maxTag} {
		add(&fine, func(v *api.Version) { v.Tag.N = n })
		add(&fine, func(v *api.Version) { v.Tag.Who = n })
	}
	for _, n := range []int{-1, -maxTag, math.MinInt, maxTag + 1, math.MaxInt} {
		add(&wrong, func(v *api.Version) { v.Tag.N = n })
		add(&wrong, func(v *api.Version) { v.Tag.Who = n })
	}
	for _, size := range []int{0, 1, api.MaxText - 1, api.MaxText} {
		add(&fine, func(v *api.Version) { v.Size = size })
		add(&fine, func(v *api.Version) { v.S.Text = strings.Repeat("\xff", size) })
	}
	for _, size := range []int{-1, math.MinInt, api.MaxText + 1, math.MaxInt} {
		add(&wrong, func(v *api.Version) { v.Size = size })
	}
	for _, size := range []int{api.MaxText + 1, 5000, 1 << 20} {
		add(&wrong, func(v *api.Version) { v.S.Text = strings.Repeat("a", size) })
	}
	for _, at := range []int{0, 1, api.MaxShards - 2, api.MaxShards - 1} {
		add(&fine, func(v *api.Version) { v.S.At = at })
	}
	for _, at := range []int{-1, math.MinInt, api.MaxShards, api.MaxShards + 1, math.MaxInt} {
		add(&wrong, func(v *api.Version) { v.S.At = at })
	}
	return fine, wrong
}

// P60
func TestPutAtTheBounds(t *testing.T) {
	fine, wrong := edges()
	for _, v := range fine {
		h := &hold.Hold{}
		put(t, h, "k", v)
		has(t, h, "k", v)
	}
	for _, v := range wrong {
		h := &hold.Hold{}
		told(t, "out of bounds", h.Put("k", v), api.ErrBound)
		has(t, h, "k")
		holds(t, h, 0)
	}
}

// P60: ring's names, of all bytes just these, from 1 to MaxName of them.
func TestPutOfNames(t *testing.T) {
	long := strings.Repeat("n", api.MaxName)
	wrong := []string{"", long + "n", strings.Repeat("n", 1000), "ä", "a b", "k#0"}
	fine := []string{"a", "-", "0", "--", long, long[1:], "key-of-9"}
	for b := range 256 {
		c := string([]byte{byte(b)})
		if strings.Contains("abcdefghijklmnopqrstuvwxyz0123456789-", c) {
			fine = append(fine, "name"+c)
		} else {
			wrong = append(wrong, c, "name"+c, c+"name")
		}
	}
	for _, key := range fine {
		h := &hold.Hold{}
		put(t, h, key, version(1, 1, "s"))
		holds(t, h, 1, key)
	}
	for _, key := range wrong {
		h := &hold.Hold{}
		told(t, key, h.Put(key, version(1, 1, "s")), api.ErrName)
		holds(t, h, 0)
	}
}

// P60
func TestPutOfATagThatIsThere(t *testing.T) {
	h := &hold.Hold{}
	first, second := version(1, 1, "abc"), version(2, 0, "d")
	put(t, h, "k", first, second, first, second, first)
	put(t, h, "k", version(1, 1, strings.Clone("abc")))
	for name, change := range map[string]func(v *api.Version){
		"another size":       func(v *api.Version) { v.Size++ },
		"another number":     func(v *api.Version) { v.S.At++ },
		"another text":       func(v *api.Version) { v.S.Text = "abd" },
		"a longer text":      func(v *api.Version) { v.S.Text += "d" },
		"a shorter text":     func(v *api.Version) { v.S.Text = "ab" },
		"no text":            func(v *api.Version) { v.S.Text = "" },
		"all zero but a tag": func(v *api.Version) { *v = api.Version{Tag: v.Tag} },
	} {
		for _, v := range []api.Version{first, second} {
			change(&v)
			told(t, name, h.Put("k", v), api.ErrExist)
		}
	}
	has(t, h, "k", first, second)
	holds(t, h, 2, "k")
}

// P60: MaxHeld over all keys, and one more.
func TestPutWhereItIsFull(t *testing.T) {
	h := filled(t, api.MaxHeld)
	holds(t, h, api.MaxHeld, "a", "b", "c")
	for _, key := range []string{"a", "b", "c", "d"} {
		told(t, "one more", h.Put(key, version(1000, 0, "s")), api.ErrFull)
		told(t, "one more, ahead of all", h.Put(key, version(0, 9, "s")), api.ErrFull)
	}
	put(t, h, "a", h.Get("a")...)
	told(t, "another one of a tag", h.Put("a", version(0, 0, "other")), api.ErrExist)
	holds(t, h, api.MaxHeld, "a", "b", "c")
	if gone, err := h.Trim("b", 19); gone != 1 || err != nil {
		t.Errorf("Trim = %d, %v", gone, err)
	}
	put(t, h, "d", version(1, 0, "s"))
	told(t, "one more again", h.Put("b", version(1, 1, "shard 1")), api.ErrFull)
	holds(t, h, api.MaxHeld, "a", "b", "c", "d")
}

// P60: all of one key, each of a key of its own.
func TestMaxHeldIsOverAllKeys(t *testing.T) {
	one, each := &hold.Hold{}, &hold.Hold{}
	for i := range api.MaxHeld {
		put(t, one, "k", version(i, 0, ""))
		put(t, each, "k"+strconv.Itoa(i), version(1, 0, ""))
	}
	for _, h := range []*hold.Hold{one, each} {
		told(t, "one more", h.Put("k", version(api.MaxHeld, 0, "")), api.ErrFull)
		told(t, "one more of another key", h.Put("other", version(1, 0, "")), api.ErrFull)
		if h.Count() != api.MaxHeld {
			t.Errorf("Count() = %d", h.Count())
		}
	}
	if len(one.Keys()) != 1 || len(each.Keys()) != api.MaxHeld {
		t.Errorf("%d keys and %d", len(one.Keys()), len(each.Keys()))
	}
}

// P60, P3: the first that is so, in the order in which they are named.
func TestPutTellsTheFirstError(t *testing.T) {
	_, wrong := edges()
	full, sealed := filled(t, api.MaxHeld), filled(t, api.MaxHeld)
	sealed.Seal()
	there := full.Get("a")[3]
	other := there
	other.S.Text = "another"
	for _, v := range wrong {
		told(t, "sealed, no name, out of bounds, full", sealed.Put("A", v), api.ErrOld)
		told(t, "sealed, out of bounds, full", sealed.Put("a", v), api.ErrOld)
		told(t, "no name, out of bounds, full", full.Put("A", v), api.ErrName)
		told(t, "out of bounds, full", full.Put("a", v), api.ErrBound)
	}
	beyond := other
	beyond.Size = api.MaxText + 1
	told(t, "out of bounds, of a tag that is there, full", full.Put("a", beyond), api.ErrBound)
	told(t, "of a tag that is there, full", full.Put("a", other), api.ErrExist)
	told(t, "the same, full", full.Put("a", there), nil)
	told(t, "full", full.Put("d", there), api.ErrFull)
	told(t, "sealed, of a tag that is there", sealed.Put("a", other), api.ErrOld)
	told(t, "sealed, the same", sealed.Put("a", there), api.ErrOld)
	told(t, "sealed, no name", sealed.Put("", there), api.ErrOld)
	told(t, "no name, full", full.Put("", there), api.ErrName)
}
