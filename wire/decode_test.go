package wire_test

import (
	"math/rand"
	"strings"
	"testing"

	"shardkeep/api"
	"shardkeep/wire"
)

// notDecoded asks that a text is none, and why.
func notDecoded(t *testing.T, name, s string, want error) {
	t.Helper()
	if got, err := wire.Decode(s); !same(got, wire.Message{}) || err != want {
		t.Errorf("%s: %.50q decoded as %.50v, %v, want %v", name, s, got, err, want)
	}
}

// none asks that a body is no message though its sum is right.
func none(t *testing.T, name, body string) {
	t.Helper()
	notDecoded(t, name, sealed(body), api.ErrText)
}

// replaced has other bytes at a place.
func replaced(s string, at int, by string) string { return s[:at] + by + s[at+len(by):] }

// numberPlaces are where numbers stand in a body: those of texts' lengths, the others, and where the count of versions stands.
func numberPlaces(m wire.Message) (lengths, others []int, count int) {
	at := 0
	text := func(s string) {
		lengths = append(lengths, at)
		at += 8 + len(s)
	}
	number := func() {
		others = append(others, at)
		at += 8
	}
	for _, s := range []string{m.From, m.To, m.Kind, m.Key} {
		text(s)
	}
	for range 3 {
		number()
	}
	count = at
	at += 8
	for _, v := range m.L {
		for range 4 {
			number()
		}
		text(v.S.Text)
	}
	return lengths, others, count
}

// P70: Sealed is 0 or 1.
func TestDecodeOfSealed(t *testing.T) {
	for _, m := range []wire.Message{{}, ordinary()} {
		_, others, _ := numberPlaces(m)
		with := func(n int) string { return replaced(body(m), others[2], number(n)) }
		for n, want := range []bool{false, true} {
			if got, err := wire.Decode(sealed(with(n))); got.Sealed != want || got.Op != m.Op || got.Key != m.Key || len(got.L) != len(m.L) || err != nil {
				t.Errorf("Sealed as %d: %v, %v", n, got, err)
			}
		}
		for _, n := range []int{2, 3, 255, 256, 257, 1<<32 + 1, 1 << 56, 1<<62 + 1, -1} {
			none(t, "Sealed is neither", with(n))
		}
	}
}

// P70: just MaxWire bytes may be a message; one more is none, whatever its sum is.
func TestDecodeOfMaxWireBytes(t *testing.T) {
	m := wire.Message{Key: strings.Repeat("x", api.MaxWire-68)}
	most := sealed(body(m))
	if got, err := wire.Decode(most); len(most) != api.MaxWire || !same(got, m) || err != nil {
		t.Errorf("%d bytes: %.50v, %v", len(most), got, err)
	}
	m.Key += "x"
	notDecoded(t, "a message of one byte more", sealed(body(m)), api.ErrText)
	for _, size := range []int{api.MaxWire, api.MaxWire + 1, api.MaxWire + 4, 2 * api.MaxWire, 1 << 24} {
		want := api.ErrText
		if size == api.MaxWire {
			want = api.ErrSum
		}
		notDecoded(t, "a text of one byte", strings.Repeat("x", size), want)
	}
	notDecoded(t, "one byte behind", most+"x", api.ErrText)
	none(t, "MaxWire bytes that are no message", strings.Repeat("\x00", api.MaxWire-4))
}

// P71: each byte, turned in each way.
func TestOneTurnedByteIsSeen(t *testing.T) {
	for _, m := range []wire.Message{{}, ordinary()} {
		s, _ := wire.Encode(m)
		for at := range s {
			for by := 1; by < 256; by++ {
				notDecoded(t, "a byte turned", replaced(s, at, string([]byte{s[at] ^ byte(by)})), api.ErrSum)
			}
		}
	}
	long := wire.Message{Key: everyByte(), L: []api.Version{{S: api.Shard{Text: strings.Repeat("s", api.MaxWire-68-256-40)}}}}
	s, err := wire.Encode(long)
	if len(s) != api.MaxWire || err != nil {
		t.Fatalf("%d bytes, %v", len(s), err)
	}
	for at := range s {
		for _, by := range []byte{1, 2, 8, 0x80, 0x55, 0xff} {
			notDecoded(t, "a byte of a long one turned", replaced(s, at, string([]byte{s[at] ^ by})), api.ErrSum)
		}
	}
}

// P70: sums.Open's errors.
func TestDecodeOfWhatIsNotSealed(t *testing.T) {
	s, _ := wire.Encode(ordinary())
	for size := range 4 {
		notDecoded(t, "fewer than four bytes", s[:size], api.ErrText)
		notDecoded(t, "fewer than four zeros", strings.Repeat("\x00", size), api.ErrText)
	}
	notDecoded(t, "without its sum", s[:len(s)-4], api.ErrSum)
	notDecoded(t, "one byte less", s[:len(s)-1], api.ErrSum)
	notDecoded(t, "one byte more", s+"\x00", api.ErrSum)
	notDecoded(t, "four other bytes", "abcd", api.ErrSum)
	none(t, "the sum of nothing", "")
}

// P70: too short for a number or a text, wherever it is cut off; or something is left.
func TestDecodeOfPieces(t *testing.T) {
	for _, m := range []wire.Message{{}, ordinary(), {Key: everyByte(), L: make([]api.Version, 5)}} {
		whole := body(m)
		for size := range whole {
			none(t, "cut off at its end", whole[:size])
		}
		for from := 1; from <= 8; from++ {
			none(t, "cut off at its beginning", whole[from:])
		}
		for _, more := range []string{"\x00", "x", "\xff", number(0), strings.Repeat("\x00", 39), strings.Repeat("\x00", 40), strings.Repeat("\x00", 41), whole} {
			none(t, "something is left", whole+more)
		}
	}
}

// P70: a number whose highest bit is set would be below 0.
func TestDecodeOfTheHighestBit(t *testing.T) {
	m := ordinary()
	whole := body(m)
	lengths, others, count := numberPlaces(m)
	for _, at := range append(append(lengths, others...), count) {
		for by := 0x80; by < 256; by++ {
			none(t, "the highest bit is set", replaced(whole, at, string([]byte{byte(by)})))
		}
		none(t, "-1", replaced(whole, at, number(-1)))
		none(t, "the least int", replaced(whole, at, "\x80\x00\x00\x00\x00\x00\x00\x00"))
	}
}

// P70: the greatest int where no length stands is a number like others.
func TestDecodeOfTheGreatestNumbers(t *testing.T) {
	m := ordinary()
	whole := body(m)
	_, others, _ := numberPlaces(m)
	for i, at := range others {
		s := sealed(replaced(whole, at, "\x7f\xff\xff\xff\xff\xff\xff\xff"))
		got, err := wire.Decode(s)
		if i == 2 { // Sealed
			notDecoded(t, "Sealed", s, api.ErrText)
			continue
		}
		if again, _ := wire.Encode(got); again != s || err != nil {
			t.Errorf("number %d: %v, %v", i, got, err)
		}
	}
}

// P70: a length beyond the end.
func TestDecodeOfLengths(t *testing.T) {
	m := ordinary()
	whole := body(m)
	lengths, _, _ := numberPlaces(m)
	for _, at := range lengths {
		left := len(whole) - at - 8
		for _, size := range []int{left + 1, left + 8, api.MaxWire, 1 << 16, 1 << 32, 1<<32 + 1, 1 << 62, 1<<63 - 1, 1<<63 - 8} {
			none(t, "a length beyond the end", replaced(whole, at, number(size)))
		}
		if size := int(whole[at+7]); size > 0 {
			none(t, "a length of one less", replaced(whole, at, number(size-1)))
		}
		none(t, "a length up to the end", replaced(whole, at, number(left))+"\x00")
	}
	// The last text may reach just to the end.
	last := lengths[len(lengths)-1]
	if got, err := wire.Decode(sealed(replaced(whole, last, number(2)))); !same(got, m) || err != nil {
		t.Errorf("%v, %v", got, err)
	}
}

// P70: more or fewer versions than it tells.
func TestDecodeOfCounts(t *testing.T) {
	for _, m := range []wire.Message{{}, {L: make([]api.Version, 1)}, ordinary(), {L: make([]api.Version, 98)}} {
		whole := body(m)
		_, _, count := numberPlaces(m)
		for told := range 120 {
			if told != len(m.L) {
				none(t, "another count", replaced(whole, count, number(told)))
			}
		}
		for _, told := range []int{1 << 20, 1 << 32, 1<<32 + len(m.L), 1 << 62, 1<<63 - 1} {
			none(t, "a great count", replaced(whole, count, number(told)))
		}
	}
}

// P70: a text is either none, or the message that Encode makes this text of.
func TestDecodeOfManyTexts(t *testing.T) {
	source := rand.New(rand.NewSource(7))
	bodies := []string{body(wire.Message{}), body(ordinary()), body(wire.Message{Kind: "ask", Key: "k", L: make([]api.Version, 2)})}
	read := 0
	for range 200000 {
		b := []byte(bodies[source.Intn(len(bodies))])
		for range 1 + source.Intn(3) {
			b[source.Intn(len(b))] = byte(source.Intn(256) >> source.Intn(9))
		}
		s := sealed(string(b))
		m, err := wire.Decode(s)
		if err != nil {
			notDecoded(t, "refused", s, api.ErrText)
			continue
		}
		read++
		if again, err := wire.Encode(m); again != s || err != nil {
			t.Fatalf("%q was decoded as %v, which is %q", s, m, again)
		}
	}
	if read < 1000 {
		t.Errorf("only %d were messages: of no use", read)
	}
}

// P71: also messages that no one would send.
func TestManyMessagesAreThereAgain(t *testing.T) {
	source := rand.New(rand.NewSource(11))
	some := func() int { return source.Int() >> source.Intn(64) }
	text := func() string {
		b := make([]byte, source.Intn(60))
		source.Read(b)
		return string(b)
	}
	for range 3000 {
		m := wire.Message{From: text(), To: text(), Kind: text(), Key: text(), Op: some(), Config: some(), Sealed: source.Intn(2) == 1}
		for range source.Intn(20) {
			m.L = append(m.L, api.Version{Tag: api.Tag{N: some(), Who: some()}, Size: some(), S: api.Shard{At: some(), Text: text()}})
		}
		there(t, "any message", m)
	}
}
