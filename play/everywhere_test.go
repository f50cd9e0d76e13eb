package play_test

import (
	"errors"
	"math"
	"math/rand/v2"
	"slices"
	"strings"
	"sync"
	"testing"

	"shardkeep/api"
	"shardkeep/plain"
	"shardkeep/play"
	"shardkeep/world"
)

// usual is a script of which much comes: numbers below 0 are in it, too.
func usual() []int {
	r := rand.New(rand.NewPCG(14, 2))
	return odds{drop: 1, twice: 10, begin: 10, down: 1, up: 4, below: 5}.script(r, 1500)
}

// played is a world in which a script was played, in one piece.
func played(t *testing.T, script []int) (*world.World, int) {
	t.Helper()
	w := made(t, five(), 5, 2)
	return w, play.Play(w, script)
}

// useful asks that much came of a play.
func useful(t *testing.T, w *world.World) {
	t.Helper()
	if len(w.Events()) < 15 {
		t.Fatalf("%d events: of no use", len(w.Events()))
	}
}

// P1: that the test ends is what it asks.
func TestEveryPlayEnds(t *testing.T) {
	numbers := []int{math.MinInt, math.MinInt32, -10, -1, 0, 119, 120, 121, math.MaxInt32, math.MaxInt - 10, math.MaxInt}
	script := make([]int, 1<<16)
	for i := range script {
		script[i] = numbers[i%len(numbers)] - i%10
	}
	long := make([]int, 1<<22)
	for _, w := range []*world.World{{}, made(t, []string{"a"}, 1, 1), made(t, five(), 5, 5), made(t, five(), 1, 1), full(t)} {
		for range 3 {
			for _, l := range [][]int{nil, {}, script, script[7:], long, usual()} {
				if n := play.Play(w, l); n < 0 || n > min(len(l), api.MaxSteps) {
					t.Fatalf("Play = %d of %d", n, len(l))
				}
			}
			show(w)
		}
	}
}

// P1: of a world that nobody has made all steps but those of clients are passed over.
func TestAWorldThatNobodyHasMade(t *testing.T) {
	for digit := range 10 {
		for _, q := range []int{0, 1, 16, 99999} {
			if n := play.Play(&world.World{}, []int{10*q + digit}); n != 0 && digit != 6 && digit != 7 {
				t.Errorf("digit %d: Play = %d", digit, n)
			}
		}
	}
}

// P1: that the test ends is what it asks.
func TestEveryOrderEnds(t *testing.T) {
	long := strings.Repeat("\xff\x00", 1<<16)
	numbers := []int{math.MinInt, -1, 0, 1, math.MaxInt}
	var l []world.Event
	for _, from := range numbers {
		for _, to := range numbers {
			for _, n := range numbers {
				e := world.Event{Who: n, Put: n == 0, Found: to != 1, Tag: api.Tag{N: n, Who: from}, Text: long[:len(long)-max(0, min(n, 1))], From: from, To: to}
				l = append(l, e)
				_ = play.Order(l)
				_ = play.Order(l[len(l)-1:])
				_ = play.Order([]world.Event{e, e})
			}
		}
	}
	_ = play.Order(make([]world.Event, 1<<12))
	orders(t, "numbers at their ends", nil, -1, put(math.MinInt, "a", math.MinInt, math.MinInt), got(math.MinInt, "a", math.MinInt, 0), put(math.MaxInt, long, 0, math.MaxInt), got(math.MaxInt, long, math.MaxInt, math.MaxInt))
	orders(t, "numbers at their ends, and old", api.ErrOld, 1, put(math.MaxInt, "a", math.MinInt, math.MinInt), put(math.MinInt, "a", math.MinInt, 0))
}

// P2: a play hangs on the world and the script alone, however many are played side by side.
func TestPlaysHangOnNothingElse(t *testing.T) {
	script := usual()
	twin, want := played(t, script)
	useful(t, twin)
	var got [16]int
	var worlds [16]*world.World
	for i := range worlds {
		worlds[i] = made(t, five(), 5, 2)
	}
	var wait sync.WaitGroup
	for i, w := range worlds {
		wait.Go(func() { got[i] = play.Play(w, script) })
	}
	wait.Wait()
	for i, w := range worlds {
		alike(t, "side by side", w, twin)
		if got[i] != want {
			t.Errorf("worker %d: Play = %d, want %d", i, got[i], want)
		}
	}
}

// P2: a script in two pieces, wherever it is cut, is that script.
func TestPlaysInTwoPieces(t *testing.T) {
	script := usual()
	twin, want := played(t, script)
	useful(t, twin)
	for cut := 0; cut <= len(script); cut += 13 {
		w, first := played(t, script[:cut])
		plays(t, "the second piece", w, want-first, script[cut:]...)
		alike(t, "two pieces", w, twin)
	}
}

// P2: worlds by turns know nothing of each other.
func TestWorldsByTurns(t *testing.T) {
	script := usual()
	other := slices.Clone(script)
	slices.Reverse(other)
	twin, want := played(t, script)
	otherTwin, otherWant := played(t, other)
	w, otherW := made(t, five(), 5, 2), made(t, five(), 5, 2)
	for i := range script {
		want -= play.Play(w, script[i:i+1])
		otherWant -= play.Play(otherW, other[i:i+1])
	}
	if want != 0 || otherWant != 0 {
		t.Errorf("%d and %d steps less", want, otherWant)
	}
	alike(t, "by turns", w, twin)
	alike(t, "by turns, the other one", otherW, otherTwin)
}

// P2
func TestOrdersSideBySide(t *testing.T) {
	l := []world.Event{put(2, "a", 0, 3), got(2, "a", 3, 5), got(1, "b", 5, 6)}
	var errs [16]error
	var wait sync.WaitGroup
	for i := range errs {
		wait.Go(func() {
			_ = play.Order(l[i%3:])
			errs[i] = play.Order(l)
		})
	}
	wait.Wait()
	for i, err := range errs {
		if code, at := plain.Code(err); code != 10 || at != 2 {
			t.Errorf("worker %d was told %v", i, err)
		}
	}
}

// P3, P5: errors by their numbers and texts, with their places.
func TestErrorsByNumbers(t *testing.T) {
	for _, x := range []struct {
		l        []world.Event
		code, at int
		text     string
	}{
		{[]world.Event{put(2, "a", 0, 3), got(2, "a", 3, 5)}, 0, -1, ""},
		{[]world.Event{put(2, "a", 0, 3), none(3, 5)}, 10, 1, "shardkeep: old"},
		{[]world.Event{none(0, 1), put(2, "a", 0, 3), got(2, "b", 3, 5)}, 5, 2, "shardkeep: none"},
	} {
		err := play.Order(x.l)
		if code, at := plain.Code(err); code != x.code || at != x.at || err != nil && err.Error() != x.text {
			t.Errorf("%v: error %d at %d, want %d at %d", err, code, at, x.code, x.at)
		}
	}
}

// P3: steps that have an error change nothing that a later step could tell.
func TestErrorsChangeNothing(t *testing.T) {
	script := usual()
	twin, want := played(t, script)
	w := made(t, five(), 5, 2)
	count := 0
	for _, v := range script {
		for who := range api.MaxClients {
			if w.State(who) != "idle" {
				plays(t, "has not ended", w, 0, 10*who+6, 10*who+7)
			}
		}
		if w.HowManyFly() == 0 {
			plays(t, "none flies", w, 0, 0, 11, 22, 33, 44, 55)
		}
		count += play.Play(w, []int{v})
	}
	if count != want {
		t.Errorf("%d steps, want %d", count, want)
	}
	alike(t, "errors between", w, twin)
}

// P3: what lies behind a length is neither read nor written.
func TestWhatLiesBehindIsNotThere(t *testing.T) {
	script := []int{6, 16, 26, 36}
	w := made(t, five(), 5, 2)
	plays(t, "the first two", w, 2, script[:2]...)
	if w.State(2) != "idle" || !slices.Equal(script, []int{6, 16, 26, 36}) {
		t.Errorf("client 2 is %s, the script is %v", w.State(2), script)
	}
	l := []world.Event{got(2, "a", 0, 3), put(2, "b", 0, 5), none(9, 9)}
	orders(t, "the first alone", nil, -1, l[:1]...)
	orders(t, "with what lies behind it", api.ErrNone, 0, l...)
}

// P4: what is handed over is only read.
func TestWhatIsHandedOverIsOnlyRead(t *testing.T) {
	script := usual()
	played(t, script)
	if !slices.Equal(script, usual()) {
		t.Error("written into a script")
	}
	w, _ := played(t, script)
	useful(t, w)
	for _, l := range [][]world.Event{w.Events(), {got(2, "a", 0, 3), put(2, "b", 0, 5)}, {put(2, "a", 0, 3), none(3, 5), got(1, "b", 5, 6)}} {
		was := slices.Clone(l)
		_ = play.Order(l)
		if !slices.Equal(l, was) {
			t.Error("written into a list")
		}
	}
}

// P4: a script that is changed behind its play does not show.
func TestScriptsAreNotKept(t *testing.T) {
	script := usual()
	w, _ := played(t, script[:700])
	clear(script[:700])
	plays(t, "nothing", w, 0)
	again, _ := played(t, usual()[:700])
	alike(t, "cleared", w, again)
}

// P4: what is written into an error does not show in another one.
func TestErrorsAreNewMemory(t *testing.T) {
	l := []world.Event{put(2, "a", 0, 3), none(3, 5)}
	var fault *api.Fault
	if !errors.As(play.Order(l), &fault) {
		t.Fatal("no fault")
	}
	fault.At, fault.Err = 99, api.ErrText
	orders(t, "again", api.ErrOld, 1, l...)
}
