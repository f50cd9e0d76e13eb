package play_test

import (
	"errors"
	"math"
	"math/rand/v2"
	"slices"
	"testing"

	"shardkeep/api"
	"shardkeep/play"
	"shardkeep/world"
)

// put with tag n.0, from one count of Delivers to another one.
func put(n int, text string, from, to int) world.Event {
	return world.Event{Put: true, Found: true, Tag: api.Tag{N: n}, Text: text, From: from, To: to}
}

func got(n int, text string, from, to int) world.Event {
	e := put(n, text, from, to)
	e.Put = false
	return e
}

// none is a Get that found nothing.
func none(from, to int) world.Event { return world.Event{From: from, To: to} }

// by another client: its tag, too.
func by(who int, e world.Event) world.Event {
	e.Who, e.Tag.Who = who, who
	return e
}

// lost is an event that tells to have found nothing, whatever else it has.
func lost(e world.Event) world.Event {
	e.Found = false
	return e
}

// orders asks for what is told of events: an error at a place, or none, where at is below 0.
func orders(t *testing.T, name string, want error, at int, l ...world.Event) {
	t.Helper()
	err := play.Order(l)
	fault, ok := err.(*api.Fault)
	switch {
	case at < 0 && err != nil:
		t.Errorf("%s: told %v, want nothing", name, err)
	case at >= 0 && (!ok || fault.At != at || fault.Err != want || !errors.Is(err, want)):
		t.Errorf("%s: told %v, want %v at %d", name, err, want, at)
	}
}

// P141
func TestEventsInOrder(t *testing.T) {
	orders(t, "nil", nil, -1)
	orders(t, "empty", nil, -1, []world.Event{}...)
	orders(t, "one", nil, -1, put(1, "a", 0, 3))
	orders(t, "one that found nothing", nil, -1, none(0, 3))
	orders(t, "one behind the other", nil, -1, none(0, 1), put(1, "a", 1, 3), got(1, "a", 3, 5), got(1, "a", 5, 6), put(2, "b", 6, 7), got(2, "b", 9, 10))
	orders(t, "clients' tags", nil, -1, put(1, "a", 0, 3), by(1, put(1, "b", 3, 5)), by(1, got(1, "b", 5, 7)), put(2, "c", 7, 9))
	orders(t, "tags below 0", nil, -1, put(-2, "a", 0, 3), put(-1, "b", 3, 5), put(0, "c", 5, 6))
	orders(t, "nothing behind nothing", nil, -1, none(0, 3), none(3, 5))
	orders(t, "a Get that nobody put", nil, -1, got(4, "a", 0, 3))
}

// P141: it is old beside one that ended ahead of its beginning, or just then.
func TestOldEvents(t *testing.T) {
	for _, from := range []int{3, 4, math.MaxInt} {
		orders(t, "a Get of a lesser tag", api.ErrOld, 1, put(2, "a", 0, 3), got(1, "b", from, from))
		orders(t, "a Put of a lesser tag", api.ErrOld, 1, put(2, "a", 0, 3), put(1, "b", from, from))
		orders(t, "a Put of the same tag", api.ErrOld, 1, put(2, "a", 0, 3), put(2, "a", from, from))
		orders(t, "a Put of the same tag as a Get's", api.ErrOld, 1, got(2, "a", 0, 3), put(2, "a", from, from))
		orders(t, "a Get behind a Get", api.ErrOld, 1, got(2, "a", 0, 3), got(1, "b", from, from))
		orders(t, "a client of a lesser number", api.ErrOld, 1, by(4, put(2, "a", 0, 3)), by(3, put(2, "b", from, from)))
		orders(t, "a client of a lesser number gets", api.ErrOld, 1, by(4, put(2, "a", 0, 3)), by(3, got(2, "b", from, from)))
		orders(t, "nothing is found", api.ErrOld, 1, put(2, "a", 0, 3), none(from, from))
		orders(t, "nothing is found, behind a Get", api.ErrOld, 1, got(2, "a", 0, 3), none(from, from))
		orders(t, "nothing is found, of a greater tag", api.ErrOld, 1, put(2, "a", 0, 3), lost(got(3, "b", from, from)))
		orders(t, "a Put that found nothing, of a greater tag", api.ErrOld, 1, put(2, "a", 0, 3), lost(put(3, "b", from, from)))
		orders(t, "a tag that is none", api.ErrOld, 1, put(0, "a", 0, 3), got(-1, "b", from, from))
		orders(t, "nothing is found, where the tag was zero", api.ErrOld, 1, put(0, "a", 0, 3), none(from, from))
	}
}

// P141: what is no such thing, of each of those.
func TestEventsThatAreNotOld(t *testing.T) {
	for _, from := range []int{2, 0, -1, math.MinInt} {
		orders(t, "a Get of a lesser tag that began ahead", nil, -1, put(2, "a", 0, 3), got(1, "b", from, 9))
		orders(t, "a Put of a lesser tag that began ahead", nil, -1, put(2, "a", 0, 3), put(1, "b", from, 9))
		orders(t, "a Put of the same tag that began ahead", nil, -1, put(2, "a", 0, 3), put(2, "a", from, 9))
		orders(t, "nothing is found, and it began ahead", nil, -1, put(2, "a", 0, 3), none(from, 9))
	}
	orders(t, "a Get of the same tag", nil, -1, put(2, "a", 0, 3), got(2, "a", 3, 5))
	orders(t, "a Get of a greater tag", nil, -1, put(2, "a", 0, 3), got(3, "b", 3, 5))
	orders(t, "a client of a greater number", nil, -1, by(3, put(2, "a", 0, 3)), by(4, put(2, "b", 3, 5)))
	orders(t, "a client's greater number beside a lesser N", nil, -1, by(5, put(2, "a", 0, 3)), by(1, put(3, "b", 3, 5)))
	orders(t, "behind one that found nothing, whatever it has", nil, -1, lost(put(9, "a", 0, 3)), lost(got(9, "a", 0, 3)), got(1, "b", 3, 5), put(2, "b", 5, 6))
	orders(t, "the older one stands behind in the list", nil, -1, got(1, "a", 5, 9), put(2, "b", 0, 3))
	orders(t, "the older one stands behind in the list, and nothing is found", nil, -1, none(5, 9), put(2, "b", 0, 3))
	orders(t, "a Put that ended ahead of its own beginning", nil, -1, put(1, "a", 5, 3))
}

// P141: any one that stands ahead counts, not just the last, nor the first.
func TestOldBesideAnyAhead(t *testing.T) {
	l := []world.Event{put(5, "a", 0, 3), put(3, "b", 0, 9), got(2, "c", 0, 9), none(0, 3), got(4, "d", 3, 20)}
	for range len(l) - 1 {
		orders(t, "one of four", api.ErrOld, len(l)-1, l...)
		l[0], l[1], l[2], l[3] = l[1], l[2], l[3], l[0]
	}
	orders(t, "between others", api.ErrOld, 2, none(0, 1), put(2, "a", 0, 3), got(1, "b", 3, 4), put(3, "c", 4, 5), put(4, "d", 5, 6))
}

// P141: a Get of another text than was put with its tag; the Put may stand anywhere.
func TestGetsThatNobodyPut(t *testing.T) {
	orders(t, "the Put stands ahead", api.ErrNone, 1, put(2, "a", 0, 3), got(2, "b", 3, 5))
	orders(t, "the Put stands behind", api.ErrNone, 0, got(2, "b", 0, 5), put(2, "a", 1, 9))
	orders(t, "the Put began behind its end", api.ErrNone, 0, got(2, "b", 0, 5), put(2, "a", 7, 9))
	orders(t, "an empty text is got", api.ErrNone, 1, put(2, "a", 0, 3), got(2, "", 3, 5))
	orders(t, "an empty text was put", api.ErrNone, 1, put(2, "", 0, 3), got(2, "b", 3, 5))
	orders(t, "of two Puts one is unlike", api.ErrNone, 0, got(2, "a", 0, 9), put(2, "a", 0, 9), put(2, "b", 0, 9))
	orders(t, "of two Puts the other one is unlike", api.ErrNone, 0, got(2, "a", 0, 9), put(2, "b", 0, 9), put(2, "a", 0, 9))
	orders(t, "the zero tag", api.ErrNone, 1, put(0, "a", 0, 3), got(0, "b", 3, 5))
	orders(t, "a Put that found nothing is a Put", api.ErrNone, 1, lost(put(2, "a", 0, 3)), got(2, "b", 3, 5))
	orders(t, "the third", api.ErrNone, 2, put(2, "a", 0, 3), got(2, "a", 3, 5), got(2, "b", 5, 6), got(2, "c", 6, 7))
}

// P141: what is no such thing.
func TestGetsThatSomebodyMayHavePut(t *testing.T) {
	orders(t, "the same text", nil, -1, got(2, "a", 0, 3), put(2, "a", 0, 5))
	orders(t, "another client's tag", nil, -1, got(2, "a", 0, 3), by(1, put(2, "b", 0, 5)))
	orders(t, "another N", nil, -1, got(2, "a", 0, 3), put(1, "b", 0, 5), put(3, "b", 0, 5))
	orders(t, "another client got it", nil, -1, func() world.Event { e := put(2, "a", 0, 5); e.Who = 4; return e }(), got(2, "a", 5, 6))
	orders(t, "no Put, but a Get", nil, -1, got(2, "a", 0, 3), got(2, "b", 0, 5))
	orders(t, "Puts alone", nil, -1, put(2, "a", 0, 3), put(2, "b", 0, 5))
	orders(t, "a Get that found nothing", nil, -1, put(0, "a", 0, 9), none(0, 5), lost(got(2, "x", 0, 3)), put(2, "b", 0, 5))
}

// P141: of events that are not in order the first; of one event ErrOld ahead of ErrNone.
func TestTheFirstEventThatIsNotInOrder(t *testing.T) {
	orders(t, "both of one", api.ErrOld, 2, put(1, "a", 0, 3), put(2, "b", 0, 3), got(1, "c", 3, 5))
	orders(t, "both of one, the Put behind it", api.ErrOld, 1, put(2, "b", 0, 3), got(1, "c", 3, 5), put(1, "a", 0, 9))
	orders(t, "none, then old", api.ErrNone, 1, put(2, "a", 0, 3), got(2, "b", 3, 5), got(1, "c", 5, 7))
	orders(t, "old, then none", api.ErrOld, 1, put(2, "a", 0, 3), got(1, "c", 3, 5), got(2, "b", 5, 7))
	orders(t, "two that are old", api.ErrOld, 1, put(2, "a", 0, 3), none(3, 5), none(5, 7))
}

// rank tells of tags that are drawn which are greater.
func rank(e world.Event) int { return 10*e.Tag.N + e.Tag.Who }

// slowOrder tells of each event what is wrong with it.
func slowOrder(l []world.Event) []error {
	wrong := make([]error, len(l))
	for _, put := range l {
		for j, get := range l {
			if put.Put && !get.Put && get.Found && rank(put) == rank(get) && put.Text != get.Text {
				wrong[j] = api.ErrNone
			}
		}
	}
	for i, first := range l {
		for j := i + 1; j < len(l); j++ {
			later := l[j]
			least := rank(first)
			if later.Put {
				least++
			}
			if first.Found && first.To <= later.From && (!later.Found || rank(later) < least) {
				wrong[j] = api.ErrOld
			}
		}
	}
	return wrong
}

// P141: many lists that are drawn, against a slow way.
func TestListsThatAreDrawn(t *testing.T) {
	r := rand.New(rand.NewPCG(14, 141))
	told := map[error]int{}
	for range 40000 {
		l := make([]world.Event, r.IntN(7))
		for i := range l {
			from := r.IntN(8)
			l[i] = world.Event{
				Who: r.IntN(3), Put: r.IntN(2) == 0, Found: r.IntN(6) > 0,
				Tag: api.Tag{N: r.IntN(3), Who: r.IntN(2)}, Text: string(rune('a' + r.IntN(2))),
				From: from, To: from + r.IntN(5) - 1,
			}
		}
		wrong := slowOrder(l)
		at := slices.IndexFunc(wrong, func(err error) bool { return err != nil })
		if at < 0 {
			told[nil]++
			orders(t, "drawn", nil, -1, l...)
			continue
		}
		told[wrong[at]]++
		orders(t, "drawn", wrong[at], at, l...)
	}
	if told[nil] < 5000 || told[api.ErrOld] < 5000 || told[api.ErrNone] < 3000 {
		t.Errorf("told %v: of no use", told)
	}
}
