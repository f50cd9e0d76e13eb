package hold_test

import (
	"slices"
	"strconv"
	"strings"
	"testing"

	"shardkeep/api"
	"shardkeep/hold"
	"shardkeep/sums"
)

// saved asks for a text, and that it is sealed.
func saved(t *testing.T, h *hold.Hold) string {
	t.Helper()
	s, err := h.Save()
	if err != nil {
		t.Fatalf("Save of %d versions: %v", h.Count(), err)
	}
	if _, err := sums.Open(s); err != nil {
		t.Fatalf("Save of %d versions is not sealed: %v", h.Count(), err)
	}
	return s
}

// same asks whether two holds hold the same.
func same(a, b *hold.Hold) bool {
	if a.Sealed() != b.Sealed() || a.Count() != b.Count() || !slices.Equal(a.Keys(), b.Keys()) {
		return false
	}
	return !slices.ContainsFunc(a.Keys(), func(key string) bool { return !slices.Equal(a.Get(key), b.Get(key)) })
}

// reloaded is a hold that was saved and loaded.
func reloaded(t *testing.T, h *hold.Hold) *hold.Hold {
	t.Helper()
	again, err := hold.Load(saved(t, h))
	if err != nil || again == nil {
		t.Fatalf("Load of %d versions = %v, %v", h.Count(), again, err)
	}
	if !same(h, again) {
		t.Fatalf("loaded %v, %v, want %v, %v", again.Keys(), again.Sealed(), h.Keys(), h.Sealed())
	}
	return again
}

// refused asks that a text is not loaded, and why.
func refused(t *testing.T, name, s string, want error) {
	t.Helper()
	h, err := hold.Load(s)
	told(t, name, err, want)
	if h != nil {
		t.Errorf("%s: Load(%.40q) has a hold beside an error", name, s)
	}
}

// mixed is a text of all kinds of bytes, 0 among them, that hangs on seed alone.
func mixed(size int, seed uint32) string {
	text := make([]byte, size)
	for i := range text {
		seed = seed*1664525 + 1013904223
		text[i] = byte(seed >> 24)
	}
	return string(text)
}

// P62, P63
func TestWhatIsSavedIsLoaded(t *testing.T) {
	fine, _ := edges()
	for _, v := range fine {
		h := &hold.Hold{}
		put(t, h, "k", v)
		reloaded(t, h)
		h.Seal()
		reloaded(t, h)
	}
	for count := range api.MaxHeld + 1 {
		h := filled(t, count)
		if again := reloaded(t, h); again.Sealed() {
			t.Error("it is sealed behind a load")
		}
		h.Seal()
		if again := reloaded(t, h); !again.Sealed() {
			t.Error("it is open behind a load")
		}
		h.Wipe()
		reloaded(t, h)
	}
}

// P63: texts that look like a hold's own, and bytes of all kinds.
func TestShardsOfAllBytesAreLoaded(t *testing.T) {
	h := &hold.Hold{}
	for i, text := range []string{"", ":", "0:", "1:k", "\x00", "\n", "\xff\xfe", "ä", "-1", "b\x00:5", mixed(999, 1), saved(t, filled(t, 2))} {
		put(t, h, "k", version(i, 0, text))
		put(t, h, "0", version(0, i, text))
		reloaded(t, h)
	}
	for b := range 256 {
		h := &hold.Hold{}
		put(t, h, "k", version(1, 0, string([]byte{byte(b)})), version(2, 0, string([]byte{'5', byte(b), ':'})))
		reloaded(t, h)
	}
}

// P63: what is loaded goes on as what was saved.
func TestWhatIsLoadedGoesOn(t *testing.T) {
	h := filled(t, api.MaxHeld-1)
	again := reloaded(t, h)
	for _, x := range []*hold.Hold{h, again} {
		told(t, "the same", x.Put("a", version(0, 0, "shard 0")), nil)
		told(t, "another one of a tag", x.Put("a", version(0, 0, "s")), api.ErrExist)
		put(t, x, "a", version(0, 1, "s"))
		told(t, "one too many", x.Put("a", version(0, 2, "s")), api.ErrFull)
		if gone, err := x.Trim("a", 2); gone != 19 || err != nil {
			t.Errorf("Trim = %d, %v", gone, err)
		}
		x.Seal()
		told(t, "sealed", x.Put("a", version(0, 2, "s")), api.ErrOld)
	}
	if !same(h, again) {
		t.Errorf("they went on to %v and %v", h.Get("a"), again.Get("a"))
	}
	sealed := reloaded(t, h)
	told(t, "sealed ahead of the saving", sealed.Put("a", version(0, 2, "s")), api.ErrOld)
	sealed.Wipe()
	put(t, sealed, "a", version(0, 2, "s"))
}

// heavy has keys and shards of just so many bytes together, the key counted with each version; all its numbers are as long as they may be.
func heavy(t *testing.T, key func(i int) string, count, bytes int) *hold.Hold {
	t.Helper()
	h := &hold.Hold{}
	for i := range count {
		size := min(api.MaxText, bytes/(count-i)-len(key(i)))
		v := version(maxTag-i, maxTag, mixed(size, uint32(i)))
		v.Size, v.S.At = api.MaxText, api.MaxShards-1
		put(t, h, key(i), v)
		bytes -= size + len(key(i))
	}
	if bytes != 0 {
		t.Fatalf("%d bytes too few", bytes)
	}
	return h
}

// P62, P63
func TestSaveOfMaxWireBytesIsNeverFull(t *testing.T) {
	long := func(i int) string { return "key-of-16-byte" + strconv.Itoa(10+i) }
	one := func(int) string { return "k" }
	for _, count := range []int{4, 5, 10, 59, api.MaxHeld} {
		for _, bytes := range []int{api.MaxWire - 1, api.MaxWire} {
			for _, key := range []func(int) string{long, one} {
				h := heavy(t, key, count, bytes)
				reloaded(t, h)
				h.Seal()
				reloaded(t, h)
			}
		}
	}
}

// P63: beyond MaxWire bytes, up to all that a hold may hold.
func TestSaveOfAllThatMayBeIsLoaded(t *testing.T) {
	long := func(i int) string { return "key-of-16-byte" + strconv.Itoa(10+i) }
	for _, bytes := range []int{api.MaxWire + 1, 5 * api.MaxWire, api.MaxHeld * (api.MaxText + api.MaxName)} {
		reloaded(t, heavy(t, long, api.MaxHeld, bytes))
	}
}

// P62
func TestATurnedBitIsSeen(t *testing.T) {
	sealed := filled(t, 3)
	sealed.Seal()
	for _, h := range []*hold.Hold{{}, sealed, filled(t, 7)} {
		s := saved(t, h)
		for bit := range 8 * len(s) {
			text := []byte(s)
			text[bit/8] ^= 1 << (bit % 8)
			refused(t, "bit "+strconv.Itoa(bit)+" turned", string(text), api.ErrSum)
		}
	}
}

// P62: as sums.Open tells it.
func TestLoadOfWhatIsNotSealed(t *testing.T) {
	for _, s := range []string{"", "a", "abc", "\x00\x00\x00", "0:", "1:"} {
		refused(t, "fewer than four bytes", s, api.ErrText)
	}
	for _, s := range []string{"abcd", "0:0:", "\x00\x00\x00\x01", mixed(100, 1)} {
		refused(t, "no seal", s, api.ErrSum)
	}
	s := saved(t, filled(t, 3))
	for size := range len(s) {
		want := api.ErrSum
		if size < 4 {
			want = api.ErrText
		}
		refused(t, "cut off", s[:size], want)
	}
	refused(t, "more behind it", s+"\x00", api.ErrSum)
	refused(t, "sealed twice", sums.Seal(s), api.ErrText)
}

// P62
func TestLoadOfWhatIsSealedAndIsNone(t *testing.T) {
	for _, s := range []string{"", "a", ":", "::", "hold", "\x00", "\xff", "0", "1", "0:0", "0:0:", "0::", "-", "2:", "-1:", "+1:", "00:", "01:", " 0:", "0 :", "99999999999999999999:", mixed(50, 2), strings.Repeat(":", 50), strings.Repeat("0:", 50), strings.Repeat("9", 5000) + ":", strings.Repeat("1:a", 50)} {
		refused(t, s, sums.Seal(s), api.ErrText)
	}
}

// body is what is sealed of a hold.
func body(t *testing.T, h *hold.Hold) string {
	t.Helper()
	text, err := sums.Open(saved(t, h))
	if err != nil {
		t.Fatal(err)
	}
	return text
}

// P62: where a byte goes, comes, or is another one, and the seal is made anew: it is none, or just the text of another hold.
func TestLoadOfWhatIsNearlyOne(t *testing.T) {
	h := &hold.Hold{}
	put(t, h, "a", version(1, 20, "abc"), version(3, 0, ""))
	put(t, h, "bc", version(maxTag, 4, "0:"))
	loads := func(s string) {
		t.Helper()
		x, err := hold.Load(sums.Seal(s))
		if err != nil {
			refused(t, s, sums.Seal(s), api.ErrText)
			return
		}
		if got := body(t, x); got != s {
			t.Errorf("%q is loaded, and saved as %q", s, got)
		}
	}
	text := body(t, h)
	for at := range len(text) + 1 {
		for b := range 256 {
			c := string([]byte{byte(b)})
			loads(text[:at] + c + text[at:])
			if at < len(text) {
				loads(text[:at] + c + text[at+1:])
			}
		}
		for end := at; end <= len(text); end++ {
			loads(text[:at] + text[end:])
			loads(text[:end] + text[at:])
		}
	}
}

// line is how a version is written, with whatever numbers.
func line(key string, numbers string, text string) string {
	return strconv.Itoa(len(key)) + ":" + key + numbers + strconv.Itoa(len(text)) + ":" + text
}

// P62: what no hold may hold, or holds otherwise.
func TestLoadOfWhatNoHoldHolds(t *testing.T) {
	h := &hold.Hold{}
	put(t, h, "a", version(1, 2, "s"), version(3, 0, "t"))
	put(t, h, "b", version(0, 0, "u"))
	a, later, b := line("a", "1:2:1:1:", "s"), line("a", "3:0:1:1:", "t"), line("b", "0:0:1:1:", "u")
	if got := body(t, h); got != "0:"+a+later+b {
		t.Fatalf("%q: the texts below are of no use", got)
	}
	for name, s := range map[string]string{
		"no seal told":           a + later + b,
		"a seal of 2":            "2:" + a,
		"no versions' order":     "0:" + later + a,
		"no keys' order":         "0:" + b + a,
		"one of a key apart":     "0:" + a + b + later,
		"one twice":              "0:" + a + a,
		"one twice, sealed":      "1:" + a + a,
		"two of a tag":           "0:" + a + line("a", "1:2:1:1:", "t"),
		"no name":                "0:" + line("A", "1:2:1:1:", "s"),
		"no key":                 "0:" + line("", "1:2:1:1:", "s"),
		"a long name":            "0:" + line(strings.Repeat("n", 17), "1:2:1:1:", "s"),
		"N below 0":              "0:" + line("a", "-1:2:1:1:", "s"),
		"N beyond":               "0:" + line("a", "1099511627777:2:1:1:", "s"),
		"N of needless zeros":    "0:" + line("a", "01:2:1:1:", "s"),
		"N with a sign":          "0:" + line("a", "+1:2:1:1:", "s"),
		"N of 0 with a sign":     "0:" + line("a", "-0:2:1:1:", "s"),
		"N of no digits":         "0:" + line("a", ":2:1:1:", "s"),
		"N of other digits":      "0:" + line("a", "0x1:2:1:1:", "s"),
		"Who below 0":            "0:" + line("a", "1:-1:1:1:", "s"),
		"Who beyond":             "0:" + line("a", "1:1099511627777:1:1:", "s"),
		"Size below 0":           "0:" + line("a", "1:2:-1:1:", "s"),
		"Size beyond":            "0:" + line("a", "1:2:1001:1:", "s"),
		"At below 0":             "0:" + line("a", "1:2:1:-1:", "s"),
		"At beyond":              "0:" + line("a", "1:2:1:12:", "s"),
		"a long shard":           "0:" + line("a", "1:2:1:1:", strings.Repeat("s", 1001)),
		"a shard of more bytes":  "0:1:a1:2:1:1:2:s",
		"a shard of fewer bytes": "0:1:a1:2:1:1:0:s",
		"a shard below 0":        "0:1:a1:2:1:1:-1:s",
		"a shard far beyond":     "0:1:a1:2:1:1:9223372036854775807:s",
		"a key of more bytes":    "0:99:a1:2:1:1:1:s",
		"a key below 0":          "0:-1:a1:2:1:1:1:s",
		"numbers too few":        "0:" + line("a", "1:2:1:", "s"),
		"numbers too many":       "0:" + line("a", "1:2:1:1:1:", "s"),
		"more behind it":         "0:" + a + "0:",
		"nothing but a key":      "0:1:a",
	} {
		refused(t, name, sums.Seal(s), api.ErrText)
	}
	many := ""
	for i := range api.MaxHeld {
		many += line("a", strconv.Itoa(i)+":0:0:0:", "")
	}
	if x, err := hold.Load(sums.Seal("0:" + many)); err != nil || x.Count() != api.MaxHeld {
		t.Errorf("MaxHeld versions: %v", err)
	}
	refused(t, "one too many", sums.Seal("0:"+many+line("a", "60:0:0:0:", "")), api.ErrText)
	refused(t, "one too many, of another key", sums.Seal("0:"+many+b), api.ErrText)
}
