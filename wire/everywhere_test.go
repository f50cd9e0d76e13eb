package wire_test

import (
	"math"
	"slices"
	"strings"
	"sync"
	"testing"
	"unsafe"

	"shardkeep/api"
	"shardkeep/plain"
	"shardkeep/wire"
)

// answers are what both calls tell: of a message, and of the text that it is.
type answers struct {
	text          string
	code, at      int
	again         wire.Message
	againCode, by int
}

func asked(m wire.Message) answers {
	var a answers
	var err error
	a.text, err = wire.Encode(m)
	a.code, a.at = plain.Code(err)
	a.again, err = wire.Decode(a.text)
	a.againCode, a.by = plain.Code(err)
	return a
}

func (a answers) same(b answers) bool {
	return a.text == b.text && a.code == b.code && a.at == b.at && same(a.again, b.again) && a.againCode == b.againCode && a.by == b.by
}

// P1: that the test ends is what it asks.
func TestEveryCallEnds(t *testing.T) {
	long := strings.Repeat("\xff\x00", 1<<20)
	for _, n := range []int{math.MinInt, -1, 0, 1, math.MaxInt} {
		for _, s := range []string{"", "\x00", "\xff", long} {
			v := api.Version{Tag: api.Tag{N: n, Who: n}, Size: n, S: api.Shard{At: n, Text: s}}
			for _, l := range [][]api.Version{nil, {}, {v}, {{}, v}, slices.Repeat([]api.Version{v}, 1000)} {
				asked(wire.Message{L: l})
				asked(wire.Message{From: s, To: s, Kind: s, Key: s, Op: n, Config: n, Sealed: true, L: l})
				wire.Decode(s)
				wire.Decode(sealed(s))
				wire.Decode(sealed(number(n) + s))
			}
		}
	}
	for size := range 200 {
		for _, b := range []string{"\x00", "\x01", "\x7f", "\x80", "\xff"} {
			wire.Decode(strings.Repeat(b, size))
			wire.Decode(sealed(strings.Repeat(b, size)))
			wire.Decode(sealed(number(1)[:7] + strings.Repeat(b, size)))
		}
	}
}

// P2: also of one message that many ask for at the same time.
func TestAnswersHangOnNothingElse(t *testing.T) {
	shared := ordinary()
	want := asked(shared)
	var told [16][3]answers
	var wait sync.WaitGroup
	for i := range told {
		wait.Go(func() {
			asked(wire.Message{Op: i, Key: strings.Repeat("k", i)})
			told[i][0] = asked(shared)
			asked(wire.Message{Op: -i})
			wire.Decode("of another one")
			told[i][1] = asked(ordinary())
			wire.Decode(sealed("of another one"))
			told[i][2] = asked(shared)
		})
	}
	wait.Wait()
	for i, l := range told {
		for _, got := range l {
			if !got.same(want) {
				t.Errorf("worker %d was told %v, want %v", i, got, want)
			}
		}
	}
}

// P3, P5: errors are bare, of their numbers, with nothing beside them.
func TestErrorsByNumbers(t *testing.T) {
	long := strings.Repeat("x", api.MaxWire)
	encode := func(m wire.Message) func() (bool, error) {
		return func() (bool, error) {
			s, err := wire.Encode(m)
			return s == "", err
		}
	}
	decode := func(s string) func() (bool, error) {
		return func() (bool, error) {
			m, err := wire.Decode(s)
			return same(m, wire.Message{}), err
		}
	}
	for _, c := range []struct {
		name string
		call func() (bool, error)
		code int
	}{
		{"a number below 0", encode(wire.Message{Op: -1}), 2},
		{"a number below 0 of the last version", encode(wire.Message{L: []api.Version{{}, {}, {Size: -1}}}), 2},
		{"a number below 0 of a long one", encode(wire.Message{Key: long, L: []api.Version{{}, {Size: -1}}}), 2},
		{"too long", encode(wire.Message{Key: long}), 7},
		{"a long text", decode(long + "x"), 1},
		{"a short text", decode("abc"), 1},
		{"another sum", decode("abcd"), 9},
		{"another sum behind a message", decode(body(ordinary()) + "abcd"), 9},
		{"no message", decode(sealed("abcd")), 1},
		{"a message up to its last byte", decode(sealed(body(ordinary()) + "x")), 1},
		{"a message but for its last byte", decode(sealed(strings.TrimSuffix(body(ordinary()), "\xff"))), 1},
	} {
		zero, err := c.call()
		if code, at := plain.Code(err); code != c.code || at != -1 {
			t.Errorf("%s: error %d at %d, want %d at -1", c.name, code, at, c.code)
		}
		if !zero {
			t.Errorf("%s: something stands beside the error", c.name)
		}
		if _, ok := err.(*api.Fault); ok {
			t.Errorf("%s: the error is not bare", c.name)
		}
	}
}

// P3: what lies behind the list's length is neither read nor written; nor what lies around a text.
func TestWhatLiesBehindIsNotThere(t *testing.T) {
	l := []api.Version{{Size: 1}, {Size: 2}, {Size: -1}, {S: api.Shard{Text: strings.Repeat("x", api.MaxWire)}}}
	before := slices.Clone(l)
	for size := range 3 {
		there(t, "a piece of a list", wire.Message{L: l[:size]})
	}
	if !slices.Equal(l, before) {
		t.Errorf("written into: %v", l)
	}
	m := ordinary()
	s := sealed(body(m))
	around := "x" + s + s
	if got, err := wire.Decode(around[1 : 1+len(s)]); !same(got, m) || err != nil {
		t.Errorf("a piece of a text: %v, %v", got, err)
	}
}

// P4
func TestWhatIsHandedOverIsOnlyRead(t *testing.T) {
	m, before := ordinary(), ordinary()
	first := asked(m)
	if !same(m, before) {
		t.Errorf("written into: %v", m)
	}
	first.again.L[0].Size = 99
	first.again.L = append(first.again.L, api.Version{})
	if second := asked(m); !same(m, before) || !same(second.again, before) {
		t.Errorf("what is written into an answer shows: %v", second)
	}
}

// P4: a text whose bytes are changed later, as no text's are by the language's own means.
func TestTextsAreNotKept(t *testing.T) {
	text := func(s string) (string, []byte) {
		b := []byte(s)
		return unsafe.String(&b[0], len(b)), b
	}
	m := ordinary()
	s, sBytes := text(sealed(body(m)))
	key, keyBytes := text("bytes of a key")
	shard, shardBytes := text("bytes of a shard")
	got, err := wire.Decode(s)
	m2 := wire.Message{Key: key, L: []api.Version{{S: api.Shard{Text: shard}}}}
	want := sealed(body(m2))
	encoded, err2 := wire.Encode(m2)
	for _, b := range [][]byte{sBytes, keyBytes, shardBytes} {
		clear(b)
	}
	if !same(got, m) || err != nil || encoded != want || err2 != nil {
		t.Errorf("a later change shows: %v, %v, %q, %v", got, err, encoded, err2)
	}
}

// overlap tells whether two texts share memory.
func overlap(a, b string) bool {
	if a == "" || b == "" {
		return false
	}
	atA, atB := uintptr(unsafe.Pointer(unsafe.StringData(a))), uintptr(unsafe.Pointer(unsafe.StringData(b)))
	return atA < atB+uintptr(len(b)) && atB < atA+uintptr(len(a))
}

// P4
func TestTextsOfAnswersAreNewMemory(t *testing.T) {
	first := sealed(body(ordinary()))
	second, _ := wire.Encode(ordinary())
	l := []string{first, second}
	for _, s := range []string{first, second, second} {
		m, err := wire.Decode(s)
		if err != nil {
			t.Fatal(err)
		}
		encoded, _ := wire.Encode(m)
		l = append(l, m.From, m.To, m.Kind, m.Key, encoded)
		for _, v := range m.L {
			l = append(l, v.S.Text)
		}
	}
	for i, a := range l {
		for _, b := range l[i+1:] {
			if overlap(a, b) {
				t.Errorf("%.20q and %.20q share memory", a, b)
			}
		}
	}
}
