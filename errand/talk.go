package errand

import (
	"slices"
	"strings"

	"shardkeep/api"
	"shardkeep/quorum"
	"shardkeep/wire"
)

// talk with all members of a place: each is sent a message, and its first answer counts.
type talk struct {
	name, key string
	op        int
	// place and awaited are where the answers that count come from, and their Kind.
	place   Place
	awaited string
	enough  int
	// By member that has answered: its versions, where they are of use. It is nil where the talk has ended.
	heard map[string][]api.Version
}

// send a message to each member of a place, with the versions of its number.
func (t *talk) send(to Place, kind string, versions func(i int) []api.Version) []wire.Message {
	var l []wire.Message
	for i, member := range to.Config.Members {
		l = append(l, wire.Message{
			From: strings.Clone(t.name), To: strings.Clone(member), Kind: kind, Key: strings.Clone(t.key),
			Op: t.op, Config: to.Number, L: versions(i),
		})
	}
	return l
}

// await answers of a Kind, of which none has come yet, from the members of a place that was checked.
func (t *talk) await(from Place, kind string) {
	t.place, t.awaited = from, kind
	t.enough, _ = quorum.Enough(from.Config)
	t.heard = map[string][]api.Version{}
}

// stop: no answer counts any more.
func (t *talk) stop() { t.heard = nil }

// counts: is it an answer that is waited for, and the first one of its member?
func (t *talk) counts(m wire.Message) bool {
	if t.heard == nil || m.To != t.name || m.Kind != t.awaited || m.Key != t.key || m.Op != t.op || m.Config != t.place.Number {
		return false
	}
	_, already := t.heard[m.From]
	return !already && slices.Contains(t.place.Config.Members, m.From)
}

func (t *talk) note(from string, l []api.Version) {
	own := slices.Clone(l)
	for i := range own {
		own[i].S.Text = strings.Clone(own[i].S.Text)
	}
	t.heard[strings.Clone(from)] = own
}

// full: have enough answered?
func (t *talk) full() bool { return len(t.heard) >= t.enough }

// told is a list for each member, in their order: of who has not answered an empty one.
func (t *talk) told() [][]api.Version {
	var lists [][]api.Version
	for _, member := range t.place.Config.Members {
		lists = append(lists, t.heard[member])
	}
	return lists
}

// copied shares no memory with the place that was handed over.
func copied(p Place) Place {
	members := make([]string, len(p.Config.Members))
	for i, member := range p.Config.Members {
		members[i] = strings.Clone(member)
	}
	p.Config.Members = members
	return p
}
