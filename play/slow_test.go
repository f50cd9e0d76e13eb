package play_test

import (
	"math/rand/v2"
	"slices"
	"strconv"
	"testing"

	"shardkeep/api"
	"shardkeep/play"
	"shardkeep/world"
)

// slowStep is one number of a script, read as digits; were tells which nodes came, in order.
func slowStep(w *world.World, were []string, v int) bool {
	digits := strconv.Itoa(v)
	if digits[0] == '-' {
		return false
	}
	kind := digits[len(digits)-1]
	q, _ := strconv.Atoi("0" + digits[:len(digits)-1])
	flying := len(w.Flying())
	if kind <= '5' && flying == 0 {
		return false
	}
	var err error
	switch {
	case kind <= '3':
		err = w.Deliver(q % flying)
	case kind == '4':
		err = w.Drop(q % flying)
	case kind == '5':
		err = w.Twice(q % flying)
	case kind == '6':
		err = w.Put(q%6, "t"+strconv.Itoa(q))
	case kind == '7':
		err = w.Get(q % 6)
	case kind == '8':
		err = w.Down(were[q%len(were)])
	case kind == '9':
		err = w.Up(were[q%len(were)])
	}
	return err == nil
}

func slowPlay(w *world.World, were []string, script []int) int {
	count := 0
	for i, v := range script {
		if i < 3000 && slowStep(w, were, v) {
			count++
		}
	}
	return count
}

// odds say how often, of a hundred, each kind of step comes; all else are Delivers.
type odds struct{ drop, twice, begin, down, up, below int }

// script of so many steps.
func (o odds) script(r *rand.Rand, steps int) []int {
	l := make([]int, steps)
	for i := range l {
		l[i] = 10*r.IntN(1+r.IntN(200)) + o.digit(r)
		if r.IntN(100) < o.below {
			l[i] = -l[i]
		}
	}
	return l
}

func (o odds) digit(r *rand.Rand) int {
	drawn := r.IntN(100)
	for i, x := range []int{o.drop, o.twice, o.begin / 2, o.begin - o.begin/2, o.down, o.up} {
		if drawn < x {
			return 4 + i
		}
		drawn -= x
	}
	return r.IntN(4)
}

// between two plays something that no script can do: nodes change, a client sends again, or begins anew. These are all nodes from then on.
func between(r *rand.Rand, were []string, worlds ...*world.World) []string {
	who := r.IntN(api.MaxClients)
	nodes := []string{"a", "b", "d", "e", "f", "g", "h", "i", "j", "k"}
	r.Shuffle(len(nodes), func(i, j int) { nodes[i], nodes[j] = nodes[j], nodes[i] })
	nodes = nodes[:5+r.IntN(3)]
	changed := false
	for _, w := range worlds {
		_ = w.Again(who)
		_ = w.Retry(who)
		changed = w.Change(nodes) == nil
	}
	for _, node := range nodes {
		if changed && !slices.Contains(were, node) {
			were = append(were, node)
		}
	}
	return were
}

// P140: many scripts, against a slow way, in worlds whose nodes change between them.
func TestMixtures(t *testing.T) {
	r := rand.New(rand.NewPCG(14, 140))
	taken, left, events, moves := 0, 0, 0, 0
	for range 150 {
		k := 1 + r.IntN(5)
		o := odds{drop: r.IntN(3), twice: r.IntN(15), begin: 10, down: r.IntN(3), up: 4, below: 3}
		w, twin := made(t, five(), 5, k), made(t, five(), 5, k)
		were := five()
		for range 40 {
			script := o.script(r, r.IntN(60))
			if r.IntN(300) == 0 {
				script = o.script(r, api.MaxSteps+r.IntN(3)-1)
			}
			got, want := play.Play(w, script), slowPlay(twin, were, script)
			if got != want {
				t.Fatalf("Play = %d, want %d", got, want)
			}
			alike(t, "mixture", w, twin)
			taken += want
			left += len(script) - want
			were = between(r, were, w, twin)
		}
		events += len(w.Events())
		_, active := w.Configs()
		moves += active
	}
	if taken < 100000 || left < 50000 || events < 500 || moves < 100 {
		t.Errorf("%d taken, %d left, %d events, %d moves: of no use", taken, left, events, moves)
	}
}
