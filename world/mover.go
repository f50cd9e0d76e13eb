package world

import (
	"shardkeep/api"
	"shardkeep/carry"
	"shardkeep/wire"
)

// mover to the next configuration: nothing is carried where it has ended.
type mover struct {
	*carry.Carry
	next api.Config
}

func (m *mover) moves() bool { return m.Carry != nil }

// move from the active configuration to the next one.
func (w *World) move(next api.Config) {
	// Both configurations were checked: nothing can fail.
	c, _ := carry.New(w.nextOp(), w.config, next, w.active, key)
	w.mover = mover{c, next}
	w.send(c.Begin())
}

func (w *World) moverHears(m wire.Message) {
	if !w.mover.moves() {
		return
	}
	w.send(w.mover.Hear(m))
	if w.mover.State() == done {
		w.config = w.mover.next
		w.active++
		w.mover = mover{}
	}
}
