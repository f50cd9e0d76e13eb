package script_test

import (
	"math/rand/v2"
	"slices"
	"strings"
	"sync"
	"testing"
	"unsafe"

	"shardkeep/api"
	"shardkeep/plain"
	"shardkeep/script"
)

// usual is a script of which much comes.
func usual() []string {
	r := rand.New(rand.NewPCG(16, 2))
	return settled(busy(r, strings.Split("a,b,d,e,f,g,h,i", ","), 1))
}

// useful asks that much came of a script.
func useful(t *testing.T, answers []string) {
	t.Helper()
	if strings.Count(answers[len(answers)-1], ", ") < 8 {
		t.Fatalf("%q: of no use", answers)
	}
}

// P1: that the test ends is what it asks.
func TestEveryRunEnds(t *testing.T) {
	r := rand.New(rand.NewPCG(16, 1))
	bytes := "\x00\xff\n\t ,.-+01239az_AZ@\xc3\xa4"
	for range 2000 {
		lines := drawn(r.IntN(1<<20), 30)
		for range 30 {
			word := make([]byte, r.IntN(12))
			for i := range word {
				word[i] = bytes[r.IntN(len(bytes))]
			}
			at := r.IntN(len(lines))
			cut := r.IntN(len(lines[at]) + 1)
			lines = append(lines, lines[at][:cut]+string(word)+lines[at][cut:], string(word))
		}
		run(t, lines[:90])
	}
}

// P1: of the longest lines, too.
func TestEveryRunOfLongLinesEnds(t *testing.T) {
	run(t, []string{"world a,b 2 1", "put 0 x"})
	for _, s := range []string{" ", ",", "a", "0", "9", "a,", "a ", "\xff", "\x00"} {
		long := strings.Repeat(s, 1<<18)
		var lines []string
		for _, line := range []string{"", "world ", "put 0 ", "put ", "get ", "go ", "all ", "down ", "up ", "change ", "again ", "state ", "events ", "prefer ", "prefer a "} {
			lines = append(lines, line+long, line+long+" 1", line+long+" 1 1", line+long+" k 1")
		}
		run(t, lines)
		run(t, append([]string{"world a,b 2 1", "put 0 x"}, lines...))
	}
}

// P1: as much as may happen in as many lines as may be.
func TestEveryRunOfMuchEnds(t *testing.T) {
	lines := []string{"world " + many(12) + " 12 1"}
	for len(lines) < api.MaxLines {
		for who := range 6 {
			lines = append(lines, "put "+string(rune('0'+who))+" x")
		}
		lines = append(lines, "change "+many(12), "twice 0", "twice 50", "again 1", "all", "retry 0", "retry 1", "events")
	}
	run(t, lines[:api.MaxLines])
}

// P2: answers hang on the lines alone, however many are run side by side.
func TestRunsHangOnNothingElse(t *testing.T) {
	lines := usual()
	want := run(t, lines)
	useful(t, want)
	var told [16][]string
	var wait sync.WaitGroup
	for i := range told {
		wait.Go(func() {
			script.Run(drawn(i, 100))
			told[i], _ = script.Run(lines)
		})
	}
	wait.Wait()
	for i, got := range told {
		if !slices.Equal(got, want) {
			t.Errorf("run %d was told otherwise", i)
		}
	}
}

// P2: a line's answer hangs on no line behind it.
func TestTheFirstLinesOfAScript(t *testing.T) {
	for _, lines := range [][]string{usual(), drawn(1, 100), drawn(5, 100), drawn(7, 100)} {
		want := run(t, lines)
		for length := range len(lines) {
			if got := run(t, slices.Clone(lines[:length])); !slices.Equal(got, want[:length]) {
				t.Fatalf("the first %d answer %q, want %q", length, got, want[:length])
			}
		}
	}
}

// P2: a script knows nothing of the one before.
func TestARunKnowsNothingOfAnother(t *testing.T) {
	for range 3 {
		tells(t, "fly", "shardkeep: none", "world a 1 1", "ok", "fly", "0", "put 0 x", "ok", "down a", "ok")
		run(t, usual())
	}
}

// P3, P5: a bare error by its number and text, without answers.
func TestErrorsByNumbers(t *testing.T) {
	lines := append(usual(), usual()...)
	got, err := script.Run(lines)
	if code, at := plain.Code(err); code != 2 || at != -1 || err.Error() != "shardkeep: bound" || len(got) != 0 {
		t.Errorf("error %d at %d, %v, with %d answers", code, at, err, len(got))
	}
	if _, err := script.Run(lines[:100]); err != nil {
		t.Errorf("told %v", err)
	}
}

// P3: what lies behind a length is neither read nor written.
func TestWhatLiesBehindIsNotThere(t *testing.T) {
	lines := append(usual(), slices.Repeat([]string{"world ! 1 1"}, 200)...)
	was := slices.Clone(lines)
	want := run(t, usual())
	if got := run(t, lines[:len(usual())]); !slices.Equal(got, want) || !slices.Equal(lines, was) {
		t.Error("told otherwise, or written into")
	}
}

// P4: what is handed over is only read.
func TestWhatIsHandedOverIsOnlyRead(t *testing.T) {
	for _, lines := range [][]string{usual(), drawn(3, 100), append(usual(), usual()...)} {
		was := slices.Clone(lines)
		script.Run(lines)
		if !slices.Equal(lines, was) {
			t.Error("written into")
		}
	}
}

// P4: a change behind a run shows in no answer.
func TestLinesAreNotKept(t *testing.T) {
	lines := usual()
	got := run(t, lines)
	clear(lines)
	if want := run(t, usual()); !slices.Equal(got, want) {
		t.Error("a change shows in answers")
	}
}

// P4: what is written into answers, also behind them, shows nowhere else.
func TestAnswersAreNewMemory(t *testing.T) {
	lines := usual()
	want, got, rest := run(t, lines), run(t, lines), run(t, lines)
	_ = append(got[:10], "none")
	clear(got)
	_ = append(got, "none")
	if !slices.Equal(rest, want) || !slices.Equal(run(t, lines), want) || !slices.Equal(lines, usual()) {
		t.Error("what is written into answers shows")
	}
}

// overlap: have two texts bytes in common, not just bytes that are the same?
func overlap(a, b string) bool {
	if a == "" || b == "" {
		return false
	}
	atA, atB := uintptr(unsafe.Pointer(unsafe.StringData(a))), uintptr(unsafe.Pointer(unsafe.StringData(b)))
	return atA < atB+uintptr(len(b)) && atB < atA+uintptr(len(a))
}

// P4: texts that are made of what lines have: of one thing, too.
func TestTextsOfAnswersAreNewMemory(t *testing.T) {
	for _, lines := range [][]string{usual(), {"world a 1 1", "put 0 x", "all", "events", "prefer a k 1", "prefer a,b k 2", "world !", "what", "state 0"}} {
		for i, line := range lines {
			lines[i] = strings.Clone(line)
		}
		for i, answer := range run(t, lines) {
			if slices.ContainsFunc(lines, func(line string) bool { return overlap(answer, line) }) {
				t.Errorf("line %d, %q: what it answers shares memory with a line", i, lines[i])
			}
		}
	}
}
