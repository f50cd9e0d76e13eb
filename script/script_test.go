package script_test

import (
	"strings"
	"testing"

	"shardkeep/script"
)

// run has one answer of each line.
func run(t *testing.T, lines []string) []string {
	t.Helper()
	answers, err := script.Run(lines)
	if err != nil || len(answers) != len(lines) {
		t.Fatalf("%q: %q, %v", lines, answers, err)
	}
	return answers
}

// tells asks for the answers of a script: of each two texts the first is a line, the second one what it answers.
func tells(t *testing.T, pairs ...string) {
	t.Helper()
	var lines []string
	for i := 0; i < len(pairs); i += 2 {
		lines = append(lines, pairs[i])
	}
	for i, got := range run(t, lines) {
		if want := pairs[2*i+1]; got != want {
			t.Errorf("line %d, %q: answers %q, want %q", i, lines[i], got, want)
		}
	}
}

// times is a line and its answer so often.
func times(count int, line, answer string) []string {
	var pairs []string
	for range count {
		pairs = append(pairs, line, answer)
	}
	return pairs
}

// after puts pairs behind others.
func after(pairs []string, more ...string) []string { return append(pairs, more...) }

// many are names of so many nodes.
func many(count int) string {
	return strings.Join(strings.Split("abcdefghijklmnopqrstuvwxyz"[:count], ""), ",")
}
