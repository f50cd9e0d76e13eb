package wire

import "shardkeep/api"

const (
	numberBytes = 8
	sumBytes    = 4
)

// writer of a message. What there is no room for is left out, so that a message that is far too long takes no memory.
type writer struct {
	out  []byte
	full bool
}

func (w *writer) message(m Message) {
	w.text(m.From)
	w.text(m.To)
	w.text(m.Kind)
	w.text(m.Key)
	w.number(m.Op)
	w.number(m.Config)
	w.flag(m.Sealed)
	w.number(len(m.L))
	for _, v := range m.L {
		w.number(v.Tag.N)
		w.number(v.Tag.Who)
		w.number(v.Size)
		w.number(v.S.At)
		w.text(v.S.Text)
	}
}

func (w *writer) flag(is bool) {
	if is {
		w.number(1)
	} else {
		w.number(0)
	}
}

func (w *writer) number(n int) {
	var bytes [numberBytes]byte
	for i := range bytes {
		bytes[i] = byte(uint64(n) >> (8 * (numberBytes - 1 - i)))
	}
	w.add(string(bytes[:]))
}

func (w *writer) text(s string) {
	w.number(len(s))
	w.add(s)
}

func (w *writer) add(s string) {
	if len(s) > api.MaxWire-sumBytes-len(w.out) {
		w.full = true
		return
	}
	w.out = append(w.out, s...)
}
