package world

import (
	"shardkeep/api"
	"shardkeep/ask"
	"shardkeep/wire"
)

// States of a client: idle is a world's own, the others are of what it asks.
const (
	idle    = "idle"
	looking = "looking"
	done    = "done"
	refused = "refused"
)

// wish is what a client was begun with: it stays where it begins anew.
type wish struct {
	put  bool
	text string
}

// client of a world: idle where it asks nothing.
type client struct {
	*ask.Ask
	wish
	// config is the number of the configuration that it asks.
	config int
	// from counts the Delivers ahead of its first beginning.
	from int
}

func (c *client) state() string {
	if c.Ask == nil {
		return idle
	}
	return c.State()
}

// begin with a wish, where the client has ended. One that is refused has not: what it was begun with is still to be done.
func (w *World) begin(who int, x wish) error {
	if !isClient(who) {
		return api.ErrBound
	}
	if w.clients[who].state() != idle {
		return api.ErrHeld
	}
	w.clients[who] = client{wish: x, from: w.delivered}
	w.start(who)
	return nil
}

// start what a client wishes, in the newest active configuration, whatever it asked ahead of it.
func (w *World) start(who int) {
	c := &w.clients[who]
	op := w.nextOp()
	// Who it is, its text and the configuration were checked: nothing can fail.
	if c.put {
		c.Ask, _ = ask.Put(who, op, w.config, w.active, key, c.text)
	} else {
		c.Ask, _ = ask.Get(who, op, w.config, w.active, key)
	}
	c.config = w.active
	w.send(c.Begin())
}

func (w *World) clientHears(who int, m wire.Message) {
	c := &w.clients[who]
	if c.state() == idle {
		return
	}
	w.send(c.Hear(m))
	switch c.state() {
	case done:
		w.note(who)
		w.clients[who] = client{}
	case refused:
		if c.config < w.active {
			w.start(who)
		}
	}
}

// note what a client has done.
func (w *World) note(who int) {
	c := &w.clients[who]
	tag, text, found := c.Answer()
	w.events = append(w.events, Event{
		Who: who, Put: c.put, Found: found, Tag: tag, Text: text,
		From: c.from, To: w.delivered,
	})
}
