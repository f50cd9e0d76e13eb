package world

import (
	"slices"
	"strings"

	"shardkeep/api"
	"shardkeep/wire"
)

// flight has the messages that are on their way, in order.
type flight struct{ messages []wire.Message }

func (f *flight) flies(at int) bool { return at >= 0 && at < len(f.messages) }

func (f *flight) room() int { return api.MaxFlying - len(f.messages) }

// send behind all others: what there is no room for is lost.
func (f *flight) send(l []wire.Message) {
	f.messages = append(f.messages, l[:min(len(l), f.room())]...)
}

// take one that flies.
func (f *flight) take(at int) wire.Message {
	m := f.messages[at]
	f.messages = slices.Delete(f.messages, at, at+1)
	return m
}

// double one that flies, where there is room.
func (f *flight) double(at int) {
	f.messages = slices.Insert(f.messages, at+1, f.messages[at])
}

// copies share no memory with what flies.
func (f *flight) copies() []wire.Message {
	l := slices.Clone(f.messages)
	for i := range l {
		l[i] = copied(l[i])
	}
	return l
}

func copied(m wire.Message) wire.Message {
	m.From, m.To = strings.Clone(m.From), strings.Clone(m.To)
	m.Kind, m.Key = strings.Clone(m.Kind), strings.Clone(m.Key)
	m.L = slices.Clone(m.L)
	for i := range m.L {
		m.L[i].S.Text = strings.Clone(m.L[i].S.Text)
	}
	return m
}
