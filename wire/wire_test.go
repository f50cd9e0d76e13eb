package wire_test

import (
	"encoding/binary"
	"hash/crc32"
	"math"
	"slices"
	"strings"
	"testing"

	"shardkeep/api"
	"shardkeep/wire"
)

// ordinary has another value in each of its fields.
func ordinary() wire.Message {
	return wire.Message{
		From: "a", To: "c0", Kind: "told", Key: "key", Op: 3, Config: 258, Sealed: true,
		L: []api.Version{
			{Tag: api.Tag{N: 1, Who: 2}, Size: 5, S: api.Shard{At: 4, Text: "xyz"}},
			{},
			{Tag: api.Tag{N: 1 << 40, Who: 7}, Size: 1000, S: api.Shard{At: 11, Text: "\x00\xff"}},
		},
	}
}

// everyByte is a text of bytes of any value.
func everyByte() string {
	var b []byte
	for i := range 256 {
		b = append(b, byte(i))
	}
	return string(b)
}

// number as the document writes it, and a text.
func number(n int) string { return string(binary.BigEndian.AppendUint64(nil, uint64(n))) }

func text(s string) string { return number(len(s)) + s }

// sealed is a body with its sum, by the library's own.
func sealed(body string) string {
	return body + string(binary.BigEndian.AppendUint32(nil, crc32.ChecksumIEEE([]byte(body))))
}

// body is what stands ahead of the sum: part by part.
func body(m wire.Message) string {
	flag := map[bool]int{true: 1}[m.Sealed]
	parts := []string{text(m.From), text(m.To), text(m.Kind), text(m.Key), number(m.Op), number(m.Config), number(flag), number(len(m.L))}
	for _, v := range m.L {
		parts = append(parts, number(v.Tag.N), number(v.Tag.Who), number(v.Size), number(v.S.At), text(v.S.Text))
	}
	return strings.Join(parts, "")
}

// same takes a nil list and an empty one for one thing.
func same(a, b wire.Message) bool {
	return a.From == b.From && a.To == b.To && a.Kind == b.Kind && a.Key == b.Key && a.Op == b.Op &&
		a.Config == b.Config && a.Sealed == b.Sealed && slices.Equal(a.L, b.L)
}

// there asks that a message is encoded as the document says, and decoded again.
func there(t *testing.T, name string, m wire.Message) {
	t.Helper()
	s, err := wire.Encode(m)
	if want := sealed(body(m)); s != want || err != nil {
		t.Errorf("%s: encoded as %.200q, %v, want %.200q", name, s, err, want)
	}
	if got, err := wire.Decode(sealed(body(m))); !same(got, m) || err != nil {
		t.Errorf("%s: decoded as %.200v, %v, want %.200v", name, got, err, m)
	}
}

// notEncoded asks that a message is not encoded, and why.
func notEncoded(t *testing.T, name string, m wire.Message, want error) {
	t.Helper()
	if got, err := wire.Encode(m); got != "" || err != want {
		t.Errorf("%s: encoded as %.50q, %v, want %v", name, got, err, want)
	}
}

// numbers are the places of a message's numbers, of the version at a place of its list too.
func numbers(at int) map[string]func(m *wire.Message) *int {
	return map[string]func(m *wire.Message) *int{
		"Op":     func(m *wire.Message) *int { return &m.Op },
		"Config": func(m *wire.Message) *int { return &m.Config },
		"N":      func(m *wire.Message) *int { return &m.L[at].Tag.N },
		"Who":    func(m *wire.Message) *int { return &m.L[at].Tag.Who },
		"Size":   func(m *wire.Message) *int { return &m.L[at].Size },
		"At":     func(m *wire.Message) *int { return &m.L[at].S.At },
	}
}

// texts are the places of a message's texts.
func texts(at int) map[string]func(m *wire.Message) *string {
	return map[string]func(m *wire.Message) *string{
		"From": func(m *wire.Message) *string { return &m.From },
		"To":   func(m *wire.Message) *string { return &m.To },
		"Kind": func(m *wire.Message) *string { return &m.Kind },
		"Key":  func(m *wire.Message) *string { return &m.Key },
		"Text": func(m *wire.Message) *string { return &m.L[at].S.Text },
	}
}

// P70: byte by byte, as the document tells it.
func TestEncodeOfAKnownMessage(t *testing.T) {
	m := wire.Message{
		From: "a", To: "c0", Kind: "put", Key: "k", Op: 3, Config: 258, Sealed: true,
		L: []api.Version{{Tag: api.Tag{N: 1 << 40, Who: 2}, Size: 5, S: api.Shard{At: 4, Text: "xy"}}},
	}
	zeros := "\x00\x00\x00\x00\x00\x00"
	want := zeros + "\x00\x01a" + zeros + "\x00\x02c0" + zeros + "\x00\x03put" + zeros + "\x00\x01k" +
		zeros + "\x00\x03" + zeros + "\x01\x02" + zeros + "\x00\x01" + zeros + "\x00\x01" +
		"\x00\x00\x01\x00\x00\x00\x00\x00" + zeros + "\x00\x02" + zeros + "\x00\x05" + zeros + "\x00\x04" + zeros + "\x00\x02xy" +
		"\x0c\xd4\xe9\x1c"
	s, err := wire.Encode(m)
	if s != want || err != nil {
		t.Errorf("%q, %v, want %q", s, err, want)
	}
	if got, err := wire.Decode(want); !same(got, m) || err != nil {
		t.Errorf("%v, %v, want %v", got, err, m)
	}
}

// P70, P71
func TestMessagesAreThereAgain(t *testing.T) {
	there(t, "zero values", wire.Message{})
	there(t, "an ordinary one", ordinary())
	open := ordinary()
	open.Sealed = false
	there(t, "not sealed", open)
	for count := range 20 {
		m := ordinary()
		m.L = nil
		for i := range count {
			m.L = append(m.L, api.Version{Tag: api.Tag{N: i, Who: count}, Size: 2 * i, S: api.Shard{At: i % 12, Text: strings.Repeat("s", i)}})
		}
		there(t, "some versions", m)
	}
	// The same one twice, and not rising: a message's list is any.
	twice := ordinary()
	twice.L = []api.Version{twice.L[2], twice.L[0], twice.L[0], twice.L[1]}
	there(t, "versions in any order", twice)
}

// P70: a message of zero values has 8 numbers and a sum.
func TestEncodeOfZeroValues(t *testing.T) {
	want := strings.Repeat("\x00", 64) + "\x75\x8d\x63\x36"
	if s, err := wire.Encode(wire.Message{}); s != want || err != nil {
		t.Errorf("%q, %v, want %q", s, err, want)
	}
}

// P70, P71: without versions, by a nil list and an empty one.
func TestMessagesWithoutVersions(t *testing.T) {
	for _, l := range [][]api.Version{nil, {}, make([]api.Version, 0, 5)} {
		m := ordinary()
		m.L = l
		there(t, "without versions", m)
		if got, err := wire.Decode(sealed(body(m))); len(got.L) != 0 || err != nil {
			t.Errorf("%v, %v", got, err)
		}
		there(t, "zero values without versions", wire.Message{L: l})
	}
}

// P70, P71: of each text.
func TestTextsOfAnyBytes(t *testing.T) {
	for at := range 3 {
		for name, place := range texts(at) {
			for _, s := range []string{"", "\x00", "\xff", "\n", "\x80\x00", "é", everyByte(), number(3), strings.Repeat("\x00", 100), sealed("")} {
				m := ordinary()
				*place(&m) = s
				there(t, name, m)
			}
		}
	}
	empty := ordinary()
	empty.From, empty.To, empty.Kind, empty.Key = "", "", "", ""
	empty.L = make([]api.Version, 3)
	there(t, "empty texts", empty)
	all := everyByte()
	there(t, "all of them", wire.Message{From: all, To: all, Kind: all, Key: all, L: []api.Version{{S: api.Shard{Text: all}}}})
}

// P70, P71: of each number.
func TestNumbersAtTheEdges(t *testing.T) {
	for at := range 3 {
		for name, place := range numbers(at) {
			for _, n := range []int{0, 1, 127, 128, 255, 256, 1<<16 - 1, 1 << 31, 1<<32 - 1, 1 << 32, 1 << 40, 1<<56 - 1, 1 << 62, 0x0102030405060708, math.MaxInt - 1, math.MaxInt} {
				m := ordinary()
				*place(&m) = n
				there(t, name, m)
			}
			for _, n := range []int{-1, -2, -255, -1 << 32, math.MinInt + 1, math.MinInt} {
				m := ordinary()
				*place(&m) = n
				notEncoded(t, name, m, api.ErrBound)
			}
		}
	}
}

// P70: a number below 0 alone, in a message of zero values.
func TestOneNumberBelowZero(t *testing.T) {
	for name, place := range numbers(0) {
		m := wire.Message{L: make([]api.Version, 1)}
		*place(&m) = -1
		notEncoded(t, name, m, api.ErrBound)
	}
}

// P70: just MaxWire bytes, and one more, by each text.
func TestMessagesOfJustMaxWireBytes(t *testing.T) {
	for at := range 3 {
		for name, place := range texts(at) {
			m := ordinary()
			*place(&m) = ""
			room := api.MaxWire - len(sealed(body(m)))
			*place(&m) = strings.Repeat("x", room)
			there(t, name, m)
			if s, _ := wire.Encode(m); len(s) != api.MaxWire {
				t.Errorf("%s: %d bytes", name, len(s))
			}
			for _, more := range []int{1, 2, 3, 4, 5, 8, 1000, 1 << 20} {
				*place(&m) = strings.Repeat("x", room+more)
				notEncoded(t, name, m, api.ErrFull)
			}
		}
	}
}

// P70: as many versions as there is room for, of 40 bytes each, and one more.
func TestMessagesOfManyVersions(t *testing.T) {
	most := (api.MaxWire - 68) / 40
	for count := most - 2; count <= most; count++ {
		there(t, "many versions", wire.Message{L: make([]api.Version, count)})
	}
	for _, count := range []int{most + 1, most + 2, 2 * most, 1 << 16} {
		notEncoded(t, "too many versions", wire.Message{L: make([]api.Version, count)}, api.ErrFull)
	}
	just := wire.Message{Key: strings.Repeat("k", (api.MaxWire-68)%40), L: make([]api.Version, most)}
	there(t, "not one byte is left", just)
	just.Key += "k"
	notEncoded(t, "one byte more", just, api.ErrFull)
}

// P70: too long in one text alone, whatever short ones follow.
func TestATextThatIsTooLong(t *testing.T) {
	for name, place := range texts(0) {
		m := wire.Message{L: make([]api.Version, 2)}
		*place(&m) = strings.Repeat("x", api.MaxWire)
		notEncoded(t, name, m, api.ErrFull)
	}
}

// P70, P3: the bound is named first, wherever the number stands.
func TestTheBoundIsToldAheadOfFull(t *testing.T) {
	long := strings.Repeat("x", api.MaxWire+1)
	for textName, text := range texts(0) {
		for at := range 3 {
			for name, place := range numbers(at) {
				m := ordinary()
				*text(&m) = long
				notEncoded(t, textName, m, api.ErrFull)
				*place(&m) = -1
				notEncoded(t, textName+" and "+name, m, api.ErrBound)
			}
		}
	}
	many := wire.Message{L: make([]api.Version, 1000)}
	many.L[999].S.At = -1
	notEncoded(t, "the last of many", many, api.ErrBound)
}

// P70: one long text many times is more than any memory, and is not put together.
func TestAMessageFarTooLong(t *testing.T) {
	m := wire.Message{L: make([]api.Version, 1<<16)}
	long := strings.Repeat("x", 1<<24)
	for i := range m.L {
		m.L[i].S.Text = long
	}
	notEncoded(t, "1 TB", m, api.ErrFull)
}
