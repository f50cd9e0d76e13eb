package script_test

import (
	"errors"
	"fmt"
	"math/rand/v2"
	"regexp"
	"strconv"
	"strings"
	"testing"

	"shardkeep/api"
	"shardkeep/play"
	"shardkeep/ring"
	"shardkeep/world"
)

// forms of lines, each of a command.
var forms = func() map[string]*regexp.Regexp {
	const who, n, word = `([0-9])`, `(0|[1-9][0-9]{0,4})`, `([^ ]+)`
	m := map[string]*regexp.Regexp{}
	for command, form := range map[string]string{
		"world": word + " " + n + " " + n, "put": who + ` ([A-Za-z0-9]+)`, "get": who, "go": n, "all": "", "drop": n, "twice": n, "down": word, "up": word, "change": word,
		"again": who, "retry": who, "state": who, "fly": "", "events": "", "configs": "", "order": "", "prefer": word + " " + word + " " + n,
	} {
		m[command] = regexp.MustCompile(`(?s)\A` + strings.TrimSpace(command+" "+form) + `\z`)
	}
	return m
}()

// slow obeys lines by their forms, one world's call after the other.
type slow struct{ w *world.World }

// answer a line.
func (s *slow) answer(line string) string {
	for command, form := range forms {
		if x := form.FindStringSubmatch(line); x != nil {
			if s.w == nil && command != "world" && command != "prefer" {
				return api.ErrNone.Error()
			}
			said, err := s.obey(command, append(x[1:], "", "", ""))
			for _, e := range []error{api.ErrText, api.ErrBound, api.ErrShape, api.ErrName, api.ErrNone, api.ErrExist, api.ErrFull, api.ErrFew, api.ErrOld, api.ErrHeld} {
				if errors.Is(err, e) {
					return e.Error()
				}
			}
			return said
		}
	}
	return api.ErrText.Error()
}

func (s *slow) obey(command string, x []string) (string, error) {
	number := func(at int) int { n, _ := strconv.Atoi(x[at]); return n }
	list := func(at int) []string { return strings.Split(x[at], ",") }
	switch command {
	case "world":
		w, err := world.New(list(0), number(1), number(2))
		if err == nil {
			s.w = w
		}
		return "ok", err
	case "put":
		return "ok", s.w.Put(number(0), x[1])
	case "get":
		return "ok", s.w.Get(number(0))
	case "go":
		return "ok", s.w.Deliver(number(0))
	case "drop":
		return "ok", s.w.Drop(number(0))
	case "twice":
		return "ok", s.w.Twice(number(0))
	case "down":
		return "ok", s.w.Down(x[0])
	case "up":
		return "ok", s.w.Up(x[0])
	case "change":
		return "ok", s.w.Change(list(0))
	case "again":
		return "ok", s.w.Again(number(0))
	case "retry":
		return "ok", s.w.Retry(number(0))
	case "order":
		return "ok", play.Order(s.w.Events())
	case "prefer":
		l, err := ring.Prefer(list(0), x[1], number(2))
		if len(l) == 0 {
			return "nothing", err
		}
		return strings.Join(l, ","), err
	default:
		return s.tell(command, number(0)), nil
	}
}

func (s *slow) tell(command string, who int) string {
	switch command {
	case "all":
		count := 0
		for count < api.MaxSteps && len(s.w.Flying()) > 0 {
			s.w.Deliver(0)
			count++
		}
		return fmt.Sprint(count)
	case "fly":
		return fmt.Sprint(len(s.w.Flying()))
	case "state":
		return s.w.State(who)
	case "configs":
		all, active := s.w.Configs()
		return fmt.Sprintf("%d %d", all, active)
	}
	var events []string
	for _, e := range s.w.Events() {
		x := fmt.Sprintf("%d put %d.%d %s", e.Who, e.Tag.N, e.Tag.Who, e.Text)
		if !e.Put && !e.Found {
			x = fmt.Sprintf("%d get none", e.Who)
		} else if !e.Put {
			x = strings.Replace(x, "put", "get", 1)
		}
		events = append(events, x)
	}
	if events == nil {
		return "nothing"
	}
	return strings.Join(events, ", ")
}

// some nodes in any order, now and then one of them twice, or a name that is none.
func some(r *rand.Rand) string {
	names := []string{"a", "b", "d", "e", "f", "g", "h", "i"}
	r.Shuffle(len(names), func(i, j int) { names[i], names[j] = names[j], names[i] })
	names = names[:1+r.IntN(6)]
	switch r.IntN(25) {
	case 0:
		names = append(names, names[0])
	case 1:
		names = append(names, "c1")
	case 2:
		names = append(names, []string{"", "A", "aaaaaaaaaaaaaaaaa", "a_"}[r.IntN(4)])
	case 3:
		names = strings.Split("a,b,d,e,f,g,h,i,j,k,l,m,n,o,p,q", ",")[:10+r.IntN(7)]
	}
	return strings.Join(names, ",")
}

// line of a script: rather one that comes to something.
func line(r *rand.Rand) string {
	who := func() int { return max(0, min(r.IntN(30), r.IntN(30))-r.IntN(24)) % 10 }
	at := func() int { return min(r.IntN(60), r.IntN(25), r.IntN(13)) }
	lines := []string{
		fmt.Sprintf("put %d t%d", who(), r.IntN(1000)), fmt.Sprintf("get %d", who()), fmt.Sprintf("put %d X", r.IntN(6)), fmt.Sprintf("get %d", r.IntN(6)),
		fmt.Sprintf("go %d", at()), fmt.Sprintf("go %d", at()), fmt.Sprintf("go %d", at()), "go 0", "go 1", "go 2", "go 0", "go 1", "all",
		fmt.Sprintf("drop %d", at()), fmt.Sprintf("twice %d", at()), fmt.Sprintf("down %c", 'a'+r.IntN(9)), fmt.Sprintf("up %c", 'a'+r.IntN(9)), fmt.Sprintf("up %c", 'a'+r.IntN(9)),
		"change " + some(r), fmt.Sprintf("again %d", who()), fmt.Sprintf("retry %d", who()), fmt.Sprintf("state %d", who()), "fly", "events", "configs", "order",
		fmt.Sprintf("prefer %s k%d %d", some(r), r.IntN(1000), r.IntN(5)),
	}
	return lines[r.IntN(len(lines))]
}

// spoil a line in one place.
func spoil(r *rand.Rand, line string) string {
	at := r.IntN(len(line))
	return line[:at] + []string{"", " ", "0", "-", "x", "\xff", "1", ","}[r.IntN(8)] + line[at+r.IntN(2):]
}

// drawn is a script of so many lines. Some scripts have much that flies, others many changes.
func drawn(seed, count int) []string {
	r := rand.New(rand.NewPCG(16, uint64(seed)))
	var lines []string
	for len(lines) < count {
		switch {
		case r.IntN(60) == 0 || len(lines) == 2:
			lines = append(lines, fmt.Sprintf("world %s %d %d", some(r), r.IntN(4), 1+r.IntN(2)))
		case r.IntN(40) == 0:
			lines = append(lines, fmt.Sprintf("world %s 12 %d", many(16), r.IntN(12)))
		case seed%5 == 0 && r.IntN(2) == 0:
			lines = append(lines, "change "+some(r), "all")
		case seed%5 == 1 && r.IntN(2) == 0:
			lines = append(lines, "twice 0", fmt.Sprintf("get %d", r.IntN(6)))
		default:
			lines = append(lines, line(r))
		}
		if r.IntN(25) == 0 {
			lines[len(lines)-1] = spoil(r, lines[len(lines)-1])
		}
	}
	return lines[:count]
}

// P160, P161: mixtures of lines against the slow way.
func TestMixturesOfLines(t *testing.T) {
	seen := map[string]int{}
	for seed := range 3000 {
		lines := drawn(seed, 1+(seed*37)%100)
		var s slow
		for i, got := range run(t, lines) {
			want := s.answer(lines[i])
			if got != want {
				t.Fatalf("%q: line %d, %q: answers %q, want %q", lines[:i], i, lines[i], got, want)
			}
			seen[want]++
			if strings.HasPrefix(lines[i], "events") && strings.Count(want, ",") > 3 {
				seen["events"]++
			}
		}
	}
	for _, answer := range []string{"ok", "nothing", "idle", "looking", "keeping", "refused", "0", "12", "1 0", "2 0", "2 1", "12 11", "events"} {
		if seen[answer] < 5 {
			t.Errorf("%s: %d times: of no use", answer, seen[answer])
		}
	}
}
