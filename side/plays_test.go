package side_test

import (
	"reflect"
	"slices"
	"strconv"
	"testing"

	"shardkeep/api"
	"shardkeep/plain"
	"shardkeep/side"
	"shardkeep/world"
)

func tells(t *testing.T, nodes []string, n, k int, l [][]int, workers int, want []side.Told) {
	t.Helper()
	got, err := side.Plays(nodes, n, k, l, workers)
	if err != nil || len(got) != len(want) {
		t.Fatalf("%s: %d of %d scripts, %v", name(workers), len(got), len(l), err)
	}
	for i := range want {
		if got[i].Steps != want[i].Steps || !slices.Equal(got[i].Events, want[i].Events) {
			t.Errorf("%s, script %d of %d: %v, want %v", name(workers), i, len(l), got[i], want[i])
		}
	}
}

// settled is a script behind which all that it says has come.
func settled(steps ...int) []int { return append(steps, make([]int, 12)...) }

// P151: with all events spelt out. In a world of one node it takes four Delivers.
func TestPlaysSpeltOut(t *testing.T) {
	l := [][]int{settled(16), nil, settled(27), append(settled(6), settled(57)...), {-1, 0, 10, 16, 16}}
	want := []side.Told{
		{Steps: 5, Events: []world.Event{{Who: 1, Put: true, Found: true, Tag: api.Tag{N: 1, Who: 1}, Text: "t1", To: 4}}},
		{},
		{Steps: 3, Events: []world.Event{{Who: 2, To: 2}}},
		{Steps: 10, Events: []world.Event{
			{Put: true, Found: true, Tag: api.Tag{N: 1}, Text: "t0", To: 4},
			{Who: 5, Found: true, Tag: api.Tag{N: 1}, Text: "t0", From: 4, To: 8},
		}},
		{Steps: 1},
	}
	for workers := 1; workers <= api.Workers; workers++ {
		tells(t, []string{"a"}, 1, 1, l, workers, want)
	}
}

// P151: Told has just its two fields.
func TestFieldsOfTold(t *testing.T) {
	x := struct {
		Events []world.Event
		Steps  int
	}(side.Told{Steps: 3})
	if x.Steps != 3 || x.Events != nil {
		t.Error(x)
	}
}

// P151: however many there are, up to 100, and in worlds of every shape.
func TestPlaysOfEach(t *testing.T) {
	events := 0
	for count := range 101 {
		n := 1 + count%5
		k := 1 + count%n
		l := scripts(uint64(count), count)
		want := playedAlone(t, five(), n, k, l)
		tells(t, five(), n, k, l, 1+count%api.Workers, want)
		for _, x := range want {
			events += len(x.Events)
		}
	}
	if events < 10000 {
		t.Errorf("%d events: of no use", events)
	}
}

// P151: a world of its own each: what one script puts, takes down or leaves undone no other one finds.
func TestEachScriptHasItsOwnWorld(t *testing.T) {
	for workers := 1; workers <= api.Workers; workers++ {
		var l [][]int
		var want []side.Told
		for i := range 25 {
			l = append(l, settled(10*i+6), settled(7), []int{8, 16, 27}, settled(7))
			put := world.Event{Who: i % 6, Put: true, Found: true, Tag: api.Tag{N: 1, Who: i % 6}, Text: "t" + strconv.Itoa(i), To: 4}
			none := side.Told{Steps: 3, Events: []world.Event{{To: 2}}}
			want = append(want, side.Told{Steps: 5, Events: []world.Event{put}}, none, side.Told{Steps: 3}, none)
		}
		tells(t, []string{"a"}, 1, 1, l, workers, want)
	}
}

// P151: at most MaxSteps of each script, by play.
func TestPlaysOfLongScripts(t *testing.T) {
	l := [][]int{
		slices.Repeat([]int{9}, api.MaxSteps-1), slices.Repeat([]int{9}, api.MaxSteps), slices.Repeat([]int{9}, api.MaxSteps+1),
		append(slices.Repeat([]int{-9}, api.MaxSteps-1), 6), append(slices.Repeat([]int{-9}, api.MaxSteps), 6), make([]int, 1<<18),
	}
	for _, workers := range []int{1, 3, 16} {
		tells(t, five(), 5, 2, l, workers, []side.Told{{Steps: 2999}, {Steps: 3000}, {Steps: 3000}, {Steps: 1}, {}, {}})
	}
}

// worldsThatAreNone are what world.New refuses, for each of its reasons.
func worldsThatAreNone() []struct {
	nodes []string
	n, k  int
} {
	many := make([]string, api.MaxNodes+1)
	for i := range many {
		many[i] = "n" + strconv.Itoa(i)
	}
	return []struct {
		nodes []string
		n, k  int
	}{
		{nil, 1, 1}, {[]string{}, 0, 0}, {many, 3, 1},
		{[]string{"a", "B", "B"}, 2, 1}, {[]string{"a", "b", ""}, 9, 1},
		{[]string{"a", "b", "a"}, 2, 1}, {[]string{"a", "b", "d", "c3", "mover"}, 2, 1}, {[]string{"mover"}, 1, 1},
		{five(), 6, 1}, {five(), -1, 1}, {five(), 0, 0}, {five(), 3, 0}, {five(), 3, 4}, {five(), 3, -1}, {many[:16], 13, 1},
	}
}

// P151: world.New's errors, with their own places, whichever scripts there are, also where there is none.
func TestPlaysInWorldsThatAreNone(t *testing.T) {
	codes := map[int]int{}
	for i, x := range worldsThatAreNone() {
		_, want := world.New(x.nodes, x.n, x.k)
		code, at := plain.Code(want)
		codes[code]++
		for _, workers := range []int{1, 2, 16} {
			for _, l := range [][][]int{nil, {}, {nil}, {settled(16), settled(7)}, scripts(3, 100)} {
				got, err := side.Plays(x.nodes, x.n, x.k, l, workers)
				if len(got) != 0 || want == nil || !reflect.DeepEqual(err, want) {
					gotCode, gotAt := plain.Code(err)
					t.Errorf("world %d, %d scripts: %d answers, error %d at %d, want %d at %d", i, len(l), len(got), gotCode, gotAt, code, at)
				}
			}
		}
	}
	// ErrBound, ErrName, ErrExist, ErrFew.
	for _, code := range []int{2, 4, 6, 8} {
		if codes[code] == 0 {
			t.Errorf("none of error %d: of no use", code)
		}
	}
}

// P151: workers, ahead of how many there are and of their worlds.
func TestPlaysByWrongWorkers(t *testing.T) {
	for _, workers := range wrongWorkers() {
		for _, count := range []int{0, 1, 100, 101} {
			got, err := side.Plays(five(), 5, 2, make([][]int, count), workers)
			wants(t, name(workers), got, err, api.ErrShape, -1)
			for _, x := range worldsThatAreNone() {
				got, err = side.Plays(x.nodes, x.n, x.k, make([][]int, count), workers)
				wants(t, name(workers), got, err, api.ErrShape, -1)
			}
		}
	}
}

// P151: more than 100, ahead of their worlds.
func TestPlaysOfTooMany(t *testing.T) {
	for _, count := range []int{101, 102, 200, 256, 1 << 16} {
		for _, workers := range []int{1, 2, 16} {
			got, err := side.Plays(five(), 5, 2, make([][]int, count), workers)
			wants(t, name(workers), got, err, api.ErrBound, -1)
			for _, x := range worldsThatAreNone() {
				got, err = side.Plays(x.nodes, x.n, x.k, make([][]int, count), workers)
				wants(t, name(workers), got, err, api.ErrBound, -1)
			}
		}
	}
}
