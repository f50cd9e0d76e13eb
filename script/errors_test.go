package script_test

import (
	"errors"
	"slices"
	"strings"
	"testing"

	"shardkeep/api"
	"shardkeep/ring"
	"shardkeep/world"
)

// P161: of all commands but two, ahead of all but what of the line is text.
func TestNoWorld(t *testing.T) {
	for _, line := range valid() {
		got := run(t, []string{line, "world !", line, "world ! 1 1", line, "world a 2 1", line, "fly"})
		alone := strings.HasPrefix(line, "world ") || strings.HasPrefix(line, "prefer ")
		for _, at := range []int{0, 2, 4, 6} {
			if !alone && got[at] != "shardkeep: none" {
				t.Errorf("%q: answers %q", line, got[at])
			}
		}
		if made := line == "world a,b,d 3 1"; got[1] != "shardkeep: text" || !made && got[7] != "shardkeep: none" || made && got[7] != "0" {
			t.Errorf("%q: then answer %q and %q", line, got[1], got[7])
		}
	}
	for _, line := range wrong() {
		if got := run(t, []string{line})[0]; got != "shardkeep: text" {
			t.Errorf("%q: answers %q", shorten(line), got)
		}
	}
}

// P161: where packages tell a place, the text stands without it.
func TestPlacesStandAside(t *testing.T) {
	var fault *api.Fault
	for line, err := range map[string]error{
		"world a,b,! 1 1":  made([]string{"a", "b", "!"}, 1, 1),
		"world a,b,b 1 1":  made([]string{"a", "b", "b"}, 1, 1),
		"world a,b,c5 1 1": made([]string{"a", "b", "c5"}, 1, 1),
		"prefer a,b,! x 1": preferred([]string{"a", "b", "!"}, "x", 1),
		"prefer a,b,b x 1": preferred([]string{"a", "b", "b"}, "x", 1),
	} {
		if !errors.As(err, &fault) || fault.At != 2 {
			t.Fatalf("%q: %v: of no use", line, err)
		}
		tells(t, line, fault.Err.Error(), "world a 1 1", "ok", line, fault.Err.Error())
	}
	tells(t, "world a 1 1", "ok", "change a,b,!", "shardkeep: name", "change a,b,b", "shardkeep: exist", "change a,b,c5", "shardkeep: exist", "change mover", "shardkeep: exist")
}

func made(nodes []string, n, k int) error {
	_, err := world.New(nodes, n, k)
	return err
}

func preferred(nodes []string, key string, n int) error {
	_, err := ring.Prefer(nodes, key, n)
	return err
}

// P161: the packages' errors, in their order.
func TestErrorsOfPackages(t *testing.T) {
	tells(t, "world a,! 99999 0", "shardkeep: name", "world a,a,! 99999 0", "shardkeep: exist", "world !,a,a 99999 0", "shardkeep: name", "world c0,b 99999 0", "shardkeep: exist", "world "+many(17)+",! 99999 0", "shardkeep: bound",
		"world a,b 3 0", "shardkeep: few", "world a,b 2 0", "shardkeep: bound", "world a,b 2 3", "shardkeep: bound", "world a,b 0 0", "shardkeep: bound", "world "+many(16)+" 13 1", "shardkeep: bound",
		"world aaaaaaaaaaaaaaaaa 1 1", "shardkeep: name", "world - 1 1", "ok")
	tells(t, "world a,b 1 1", "ok", "change a,b", "ok", "change !", "shardkeep: held", "all", "2", "change !,a,a", "shardkeep: name", "change a,a,!", "shardkeep: exist", "change c0,c0", "shardkeep: exist", "change "+many(17), "shardkeep: bound", "configs", "2 1")
}

// P161: a world that cannot be made leaves the one that is there.
func TestAWorldThatIsNone(t *testing.T) {
	tells(t, "world a,b,d 3 1", "ok", "put 0 x", "ok", "world a,b,d 4 1", "shardkeep: few", "world a,,b 1 1", "shardkeep: name", "world a 1 2", "shardkeep: bound", "world a 1", "shardkeep: text",
		"fly", "3", "state 0", "looking", "all", "12", "world a,a 1 1", "shardkeep: exist", "events", "0 put 1.0 x", "configs", "1 0", "down d", "ok")
}

// P161: lines that answer an error may as well not be there.
func TestErrorsChangeNothing(t *testing.T) {
	kinds := map[string]int{}
	for seed := range 1500 {
		lines := drawn(seed, 100)
		answers := run(t, lines)
		var left, want []string
		for i, answer := range answers {
			if strings.HasPrefix(answer, "shardkeep: ") {
				kinds[answer+" "+strings.SplitN(lines[i], " ", 2)[0]]++
				continue
			}
			left, want = append(left, lines[i]), append(want, answer)
		}
		if got := run(t, left); !slices.Equal(got, want) {
			t.Fatalf("%q: answers %q, without errors %q", lines, answers, got)
		}
	}
	for _, kind := range []string{
		"none go", "none drop", "none twice", "full twice", "none down", "none up", "none again", "bound again", "none retry", "old retry", "bound retry", "held put", "bound put", "held get", "bound get",
		"held change", "full change", "name change", "exist change", "few change", "name world", "exist world", "few world", "bound world", "few prefer", "name prefer", "exist prefer", "none fly", "text put", "text world", "text go",
	} {
		if kinds["shardkeep: "+kind] == 0 {
			t.Errorf("%s: never: of no use", kind)
		}
	}
}
