// Package errand: what a client and the mover have in common: each asks all members of a configuration, chooses an object by what enough of them told, and has enough members keep it: see ../shared/doc/09-ask.md, ../shared/doc/11-carry.md.
package errand

import (
	"strings"

	"shardkeep/api"
	"shardkeep/coder"
	"shardkeep/quorum"
	"shardkeep/ring"
	"shardkeep/wire"
)

// States of every errand, behind the first one, which its plan names.
const (
	keeping = "keeping"
	done    = "done"
	refused = "refused"
)

// Plan has all in which errands are unlike.
type Plan struct {
	Name, Key string
	Op        int
	// From is asked, To keeps: they may be one.
	From, To Place
	// Asks is the Kind of what is sent first, Told that of what is answered, State the first state.
	Asks, Told, State string
	// Choose tells which object is kept, where members of From told this. It is asked once.
	Choose func(from api.Config, told [][]api.Version) Object
}

// Place is a configuration, and its number.
type Place struct {
	Config api.Config
	Number int
}

// Object that is kept, and answered: zero where there is none.
type Object struct {
	Tag   api.Tag
	Text  string
	Found bool
}

// Errand by a plan.
type Errand struct {
	talk
	from, to Place
	asks     string
	choose   func(from api.Config, told [][]api.Version) Object
	state    string
	object   Object
}

// New errand: quorum.Check's errors of From, then of To; ErrName: Key; ErrBound: a number below 0.
func New(p Plan) (Errand, error) {
	if err := quorum.Check(p.From.Config); err != nil {
		return Errand{}, err
	}
	if err := quorum.Check(p.To.Config); err != nil {
		return Errand{}, err
	}
	if !ring.IsName(p.Key) {
		return Errand{}, api.ErrName
	}
	if p.Op < 0 || p.From.Number < 0 || p.To.Number < 0 {
		return Errand{}, api.ErrBound
	}
	e := Errand{
		talk: talk{name: p.Name, key: strings.Clone(p.Key), op: p.Op},
		from: copied(p.From), to: copied(p.To), asks: p.Asks, choose: p.Choose, state: p.State,
	}
	e.await(e.from, p.Told)
	return e, nil
}

// Begin tells what is sent first, at any time.
func (e *Errand) Begin() []wire.Message {
	return e.send(e.from, e.asks, func(int) []api.Version { return nil })
}

// Hear an answer: what is sent then.
func (e *Errand) Hear(m wire.Message) []wire.Message {
	if !e.counts(m) {
		return nil
	}
	switch {
	case m.Sealed:
		e.end(refused, Object{})
	case e.state == keeping:
		e.hearKept(m.From)
	default:
		return e.hearTold(m.From, m.L)
	}
	return nil
}

// State of an errand.
func (e *Errand) State() string { return e.state }

// Answer when done.
func (e *Errand) Answer() (tag api.Tag, text string, found bool) {
	if e.state != done {
		return api.Tag{}, "", false
	}
	return e.object.Tag, strings.Clone(e.object.Text), e.object.Found
}

// Best is the choice of who has members keep what they told.
func Best(from api.Config, told [][]api.Version) Object {
	// The configuration was checked, and there is a list for each of its members: nothing else can fail.
	tag, text, found, _ := quorum.Best(from, told)
	return Object{tag, text, found}
}

func (e *Errand) hearTold(from string, l []api.Version) []wire.Message {
	e.note(from, l)
	if !e.full() {
		return nil
	}
	chosen := e.choose(e.from.Config, e.told())
	if !chosen.Found {
		e.end(done, Object{})
		return nil
	}
	e.state, e.object = keeping, chosen
	e.await(e.to, "kept")
	return e.keep()
}

func (e *Errand) hearKept(from string) {
	e.note(from, nil)
	if e.full() {
		e.end(done, e.object)
	}
}

func (e *Errand) keep() []wire.Message {
	o := e.object
	// Who chose it has kept its text in bounds.
	shards, _ := coder.Encode(e.to.Config.N, e.to.Config.K, o.Text)
	return e.send(e.to, "keep", func(i int) []api.Version {
		return []api.Version{{Tag: o.Tag, Size: len(o.Text), S: shards[i]}}
	})
}

// end with what is answered from now on: nothing else is kept of it but what Begin tells.
func (e *Errand) end(state string, answer Object) {
	e.state, e.object, e.choose = state, answer, nil
	e.stop()
}
