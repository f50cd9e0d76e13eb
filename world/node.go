package world

import (
	"strings"

	"shardkeep/api"
	"shardkeep/serve"
	"shardkeep/wire"
)

// node of a world: a member of those configurations that prefer it.
type node struct {
	*serve.Member
	name string
	down bool
}

// nodeNamed is nil where none has the name.
func (w *World) nodeNamed(name string) *node {
	for _, n := range w.nodes {
		if n.name == name {
			return n
		}
	}
	return nil
}

// strangers are those that are no nodes of the world yet.
func (w *World) strangers(names []string) []string {
	var l []string
	for _, name := range names {
		if w.nodeNamed(name) == nil {
			l = append(l, name)
		}
	}
	return l
}

// admit nodes whose names were checked.
func (w *World) admit(names []string) {
	for _, name := range names {
		member, _ := serve.New(name)
		w.nodes = append(w.nodes, &node{Member: member, name: strings.Clone(name)})
	}
}

func (w *World) turn(name string, down bool) error {
	n := w.nodeNamed(name)
	if n == nil {
		return api.ErrNone
	}
	n.down = down
	return nil
}

func (w *World) nodeHears(m wire.Message) {
	if n := w.nodeNamed(m.To); n != nil && !n.down {
		w.send(n.Hear(m))
	}
}
