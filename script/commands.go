package script

import (
	"strconv"
	"strings"

	"shardkeep/api"
	"shardkeep/play"
	"shardkeep/ring"
	"shardkeep/world"
)

// nothing is the answer that tells of no thing.
const nothing = "nothing"

// action of a command: it tells its answer, or an error.
type action func(p *player, in input) (string, error)

// command of a script.
type command struct {
	// takes reads the words behind the command's own, each by its reader.
	takes []reader
	// anyway: also where there is no world.
	anyway bool
	run    action
}

// read words: false where they are not what the command takes.
func (c command) read(words []string) (input, bool) {
	var in input
	if len(words) != len(c.takes) {
		return in, false
	}
	for i, take := range c.takes {
		if !take(&in, words[i]) {
			return in, false
		}
	}
	return in, true
}

// commands by their words.
func commands() map[string]command {
	return map[string]command{
		"world":  {takes: []reader{names, number, number}, anyway: true, run: doing((*player).begin)},
		"put":    {takes: []reader{client, object}, run: doing(func(p *player, in input) error { return p.Put(in.who, in.text) })},
		"get":    {takes: []reader{client}, run: doing(func(p *player, in input) error { return p.Get(in.who) })},
		"go":     {takes: []reader{number}, run: doing(func(p *player, in input) error { return p.Deliver(in.numbers[0]) })},
		"drop":   {takes: []reader{number}, run: doing(func(p *player, in input) error { return p.Drop(in.numbers[0]) })},
		"twice":  {takes: []reader{number}, run: doing(func(p *player, in input) error { return p.Twice(in.numbers[0]) })},
		"down":   {takes: []reader{some}, run: doing(func(p *player, in input) error { return p.Down(in.text) })},
		"up":     {takes: []reader{some}, run: doing(func(p *player, in input) error { return p.Up(in.text) })},
		"change": {takes: []reader{names}, run: doing(func(p *player, in input) error { return p.Change(in.names) })},
		"again":  {takes: []reader{client}, run: doing(func(p *player, in input) error { return p.Again(in.who) })},
		"retry":  {takes: []reader{client}, run: doing(func(p *player, in input) error { return p.Retry(in.who) })},
		"order":  {run: doing(func(p *player, _ input) error { return play.Order(p.Events()) })},

		"all":     {run: telling(func(p *player, _ input) string { return strconv.Itoa(p.deliverAll()) })},
		"fly":     {run: telling(func(p *player, _ input) string { return strconv.Itoa(p.HowManyFly()) })},
		"state":   {takes: []reader{client}, run: telling(func(p *player, in input) string { return p.State(in.who) })},
		"events":  {run: telling(func(p *player, _ input) string { return eventsTold(p.Events()) })},
		"configs": {run: telling(func(p *player, _ input) string { return configsTold(p.Configs()) })},

		"prefer": {takes: []reader{names, some, number}, anyway: true, run: prefer},
	}
}

// doing is of commands that tell no more than that they had no error.
func doing(do func(p *player, in input) error) action {
	return func(p *player, in input) (string, error) {
		if err := do(p, in); err != nil {
			return "", err
		}
		return "ok", nil
	}
}

// telling is of commands that have no error.
func telling(tell func(p *player, in input) string) action {
	return func(p *player, in input) (string, error) { return tell(p, in), nil }
}

// begin a new world: the one before stays where there is an error.
func (p *player) begin(in input) error {
	w, err := world.New(in.names, in.numbers[0], in.numbers[1])
	if err != nil {
		return err
	}
	p.World = w
	return nil
}

// deliverAll that flies, and what is sent then, and tells how many.
func (p *player) deliverAll() int {
	for count := range api.MaxSteps {
		if p.Deliver(0) != nil {
			return count
		}
	}
	return api.MaxSteps
}

func prefer(_ *player, in input) (string, error) {
	nodes, err := ring.Prefer(in.names, in.text, in.numbers[0])
	if err != nil {
		return "", err
	}
	return joined(nodes, ","), nil
}

func configsTold(all, active int) string { return strconv.Itoa(all) + " " + strconv.Itoa(active) }

func eventsTold(l []world.Event) string {
	var told []string
	for _, e := range l {
		told = append(told, strconv.Itoa(e.Who)+" "+eventTold(e))
	}
	return joined(told, ", ")
}

// eventTold without who it is of.
func eventTold(e world.Event) string {
	what := tagTold(e.Tag) + " " + e.Text
	switch {
	case e.Put:
		return "put " + what
	case e.Found:
		return "get " + what
	}
	return "get none"
}

func tagTold(tag api.Tag) string { return strconv.Itoa(tag.N) + "." + strconv.Itoa(tag.Who) }

func joined(l []string, between string) string {
	if len(l) == 0 {
		return nothing
	}
	return strings.Join(l, between)
}
