package script_test

import (
	"fmt"
	"math/rand/v2"
	"slices"
	"strconv"
	"strings"
	"testing"
)

// newest is the tag and the text of the Put with the greatest tag, of events as a script tells them; and how many Puts there are.
func newest(t *testing.T, events string) (what string, puts int) {
	t.Helper()
	most, by := 0, 0
	for _, e := range strings.Split(events, ", ") {
		x := strings.Split(e, " ")
		if x[1] != "put" {
			continue
		}
		puts++
		var n, who int
		if _, err := fmt.Sscanf(x[2], "%d.%d", &n, &who); err != nil {
			t.Fatalf("%q: %v", events, err)
		}
		if n > most || n == most && who > by {
			most, by, what = n, who, x[2]+" "+x[3]
		}
	}
	return what, puts
}

// settled has all come, also to those that were refused, and the last of 6 clients get what was put.
func settled(lines []string) []string {
	lines = append(slices.Clone(lines), "all")
	for who := range 6 {
		lines = append(lines, "retry "+strconv.Itoa(who))
	}
	return append(lines, "all", "get 5", "all", "configs", "order", "events")
}

// gets asks for what was put, by whom a script lets begin, to be done, and for the newest of it to be got at the end; and tells how many that are.
func gets(t *testing.T, lines []string) int {
	t.Helper()
	lines = settled(lines)
	answers := run(t, lines)
	begun := 0
	for i, line := range lines {
		if strings.HasPrefix(line, "put ") && answers[i] == "ok" {
			begun++
		}
	}
	end := answers[len(answers)-3:]
	what, puts := newest(t, end[2])
	if what == "" {
		what = "none"
	}
	if puts != begun || !strings.HasSuffix(", "+end[2], ", 5 get "+what) || end[1] != "ok" {
		t.Fatalf("%q: %d Puts begun, %d done, the newest %q; answers %q", lines, begun, puts, what, answers)
	}
	return puts
}

// P162: of as many shards as may be, of which as many are enough, while as many nodes are down as may be.
func TestWhatIsPutIsGot(t *testing.T) {
	for n := 1; n <= 12; n++ {
		for k := 1; k <= n; k++ {
			lines := []string{fmt.Sprintf("world %s %d %d", many(n), n, k)}
			for i := range n - (n+k+1)/2 {
				lines = append(lines, fmt.Sprintf("down %c", 'a'+(i*5+n)%n))
			}
			for i, text := range []string{"a", strings.Repeat("Long0", 200), "put", "0"} {
				lines = append(lines, fmt.Sprintf("put %d %s", i, text), "all", "get 4", "all")
				if puts := gets(t, lines); puts != i+1 {
					t.Fatalf("%d of %d: %d Puts: of no use", k, n, puts)
				}
			}
		}
	}
}

// busy is a script in which nothing is lost but by nodes that are down, of which others are enough; whatever is doubled and turned around.
func busy(r *rand.Rand, nodes []string, downs int) []string {
	r.Shuffle(len(nodes), func(i, j int) { nodes[i], nodes[j] = nodes[j], nodes[i] })
	lines := []string{fmt.Sprintf("world %s %d 1", strings.Join(nodes[:5], ","), 2*downs+1)}
	twice := 0
	for len(lines) < 80 {
		switch r.IntN(16) {
		case 0, 1, 2:
			lines = append(lines, fmt.Sprintf("put %d t%d", r.IntN(5), len(lines)))
		case 3, 4:
			lines = append(lines, fmt.Sprintf("get %d", r.IntN(5)))
		case 5:
			// No more of them, or what flies would be more than may, and be lost.
			if twice++; twice < 10 {
				lines = append(lines, fmt.Sprintf("twice %d", r.IntN(10)))
			}
		case 6:
			at := r.IntN(len(nodes) - 5)
			lines = append(lines, "change "+strings.Join(nodes[at:at+5], ","))
		case 7:
			lines = append(lines, "all")
		case 8, 9:
			if downs > 0 {
				lines = append(lines, []string{"down ", "up "}[r.IntN(2)]+nodes[r.IntN(downs)])
			}
		default:
			lines = append(lines, fmt.Sprintf("go %d", r.IntN(1+r.IntN(20))))
		}
	}
	return lines
}

// P162: also where members change, and clients were refused.
func TestWhatIsPutIsGotWhereMembersChange(t *testing.T) {
	r := rand.New(rand.NewPCG(16, 162))
	puts := 0
	for i := range 1500 {
		puts += gets(t, busy(r, strings.Split("a,b,d,e,f,g,h,i", ","), i%3))
	}
	if puts < 8000 {
		t.Errorf("%d Puts: of no use", puts)
	}
}

// P162: whatever was lost before, in whatever state others stand since: what is put from then on is got.
func TestWhatIsPutBehindLossesIsGot(t *testing.T) {
	r := rand.New(rand.NewPCG(16, 1620))
	stuck := 0
	for range 1000 {
		n := 1 + r.IntN(5)
		lines := []string{fmt.Sprintf("world a,b,d,e,f %d %d", n, 1+r.IntN(n))}
		for len(lines) < 80 {
			lines = append(lines, []string{
				fmt.Sprintf("put %d t%d", r.IntN(4), len(lines)), fmt.Sprintf("get %d", r.IntN(4)), fmt.Sprintf("go %d", r.IntN(6)), fmt.Sprintf("go %d", r.IntN(3)), "go 0", "go 1", "go 0",
				fmt.Sprintf("drop %d", r.IntN(4)), fmt.Sprintf("twice %d", r.IntN(5)), fmt.Sprintf("again %d", r.IntN(4)), "down b", "up b", "down f", "up f",
			}[r.IntN(14)])
		}
		lines = append(lines, "up b", "up f", "all", "state 0", "put 4 last", "all", "state 4", "get 5", "all", "order", "events")
		answers := run(t, lines)
		events := answers[len(answers)-1]
		at := strings.LastIndex(", "+events, ", 4 put ")
		if at < 0 {
			t.Fatalf("%q: answers %q", lines, answers)
		}
		tag := strings.Fields(events[at:])[2]
		if events[at:] != fmt.Sprintf("4 put %s last, 5 get %s last", tag, tag) || answers[len(answers)-2] != "ok" {
			t.Fatalf("%q: answers %q", lines, answers)
		}
		if answers[83] == "keeping" {
			stuck++
		}
	}
	if stuck < 50 {
		t.Errorf("%d that stand still: of no use", stuck)
	}
}
