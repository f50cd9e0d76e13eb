package wire

import (
	"math"

	"shardkeep/api"
	"shardkeep/sums"
)

// unreadable is what is thrown where a text cannot be read.
type unreadable struct{ err error }

// opened is what a sum stands behind. It is new memory, so that a message may be made of its pieces.
func opened(s string) string {
	if len(s) > api.MaxWire {
		panic(unreadable{api.ErrText})
	}
	text, err := sums.Open(s)
	if err != nil {
		panic(unreadable{err})
	}
	return text
}

// reader of a message: of what is left of its text.
type reader struct{ rest string }

func (r *reader) message() Message {
	var m Message
	m.From = r.text()
	m.To = r.text()
	m.Kind = r.text()
	m.Key = r.text()
	m.Op = r.number()
	m.Config = r.number()
	m.Sealed = r.flag()
	// No room is made ahead: how many there are is only told so far.
	for range r.number() {
		m.L = append(m.L, r.version())
	}
	if r.rest != "" {
		panic(unreadable{api.ErrText})
	}
	return m
}

func (r *reader) version() api.Version {
	var v api.Version
	v.Tag.N = r.number()
	v.Tag.Who = r.number()
	v.Size = r.number()
	v.S.At = r.number()
	v.S.Text = r.text()
	return v
}

func (r *reader) flag() bool {
	n := r.number()
	if n > 1 {
		panic(unreadable{api.ErrText})
	}
	return n == 1
}

func (r *reader) number() int {
	n := uint64(0)
	for _, b := range []byte(r.take(numberBytes)) {
		n = n<<8 | uint64(b)
	}
	// As an int it would be below 0, and no number of a message is.
	if n > math.MaxInt {
		panic(unreadable{api.ErrText})
	}
	return int(n)
}

func (r *reader) text() string { return r.take(r.number()) }

func (r *reader) take(size int) string {
	if size > len(r.rest) {
		panic(unreadable{api.ErrText})
	}
	taken := r.rest[:size]
	r.rest = r.rest[size:]
	return taken
}
