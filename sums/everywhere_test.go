package sums_test

import (
	"errors"
	"slices"
	"strings"
	"sync"
	"testing"
	"unsafe"

	"shardkeep/api"
	"shardkeep/plain"
	"shardkeep/sums"
)

// answer is what all calls tell of a text.
type answer struct {
	crc, hash    uint32
	sealed, text string
	code, at     int
}

func asked(s string) answer {
	text, err := sums.Open(s)
	code, at := plain.Code(err)
	return answer{sums.CRC(s), sums.Hash(s), sums.Seal(s), text, code, at}
}

// P1: that the test ends is what it asks.
func TestEveryCallEnds(t *testing.T) {
	for _, s := range texts() {
		asked(s)
		asked(sums.Seal(s))
	}
	asked(strings.Repeat("\xff\x00", 1<<20))
}

// P2
func TestAnswersHangOnNothingElse(t *testing.T) {
	l := []string{"", "abc", "abc\x35\x24\x41\xc2", mixed(500, 1), sums.Seal(mixed(500, 1))}
	var want []answer
	for _, s := range l {
		want = append(want, asked(s))
	}
	var told [16][]answer
	var wait sync.WaitGroup
	for i := range told {
		wait.Go(func() {
			asked(mixed(10*i, uint32(i)))
			for _, s := range l {
				told[i] = append(told[i], asked(s))
			}
		})
	}
	wait.Wait()
	for i, got := range told {
		if !slices.Equal(got, want) {
			t.Errorf("worker %d was told otherwise", i)
		}
	}
}

// P3: no place is told in this chapter, so errors are bare, and the text beside them is empty. P5: they are the errors 1 and 9.
func TestErrorsAreBare(t *testing.T) {
	for _, c := range []struct {
		s    string
		want error
		code int
	}{
		{"", api.ErrText, 1},
		{"abc", api.ErrText, 1},
		{"abcd", api.ErrSum, 9},
		{"abc\x35\x24\x41\xc3", api.ErrSum, 9},
		{"bbc\x35\x24\x41\xc2", api.ErrSum, 9},
	} {
		got, err := sums.Open(c.s)
		var fault *api.Fault
		if got != "" || err != c.want || errors.As(err, &fault) {
			t.Errorf("Open(%q) = %q, %v, want %v bare", c.s, got, err, c.want)
		}
		if code, at := plain.Code(err); code != c.code || at != -1 {
			t.Errorf("Open(%q): error %d at %d, want %d at -1", c.s, code, at, c.code)
		}
	}
}

// P3: a text that is a piece of a longer one, with its own seal or other bytes around it.
func TestWhatLiesAroundATextIsNotThere(t *testing.T) {
	long := "x" + sums.Seal("abc") + sums.Seal("")
	before := strings.Clone(long)
	for first := range len(long) + 1 {
		for end := first; end <= len(long); end++ {
			if got, want := asked(long[first:end]), asked(strings.Clone(long[first:end])); got != want {
				t.Errorf("%q from %d to %d: told %v, want %v", long, first, end, got, want)
			}
		}
	}
	if long != before {
		t.Errorf("written into: %q", long)
	}
}

// P4: neither what was handed over nor what was answered shows a later change.
func TestTextsAreOnlyReadAndAnswersStay(t *testing.T) {
	text := []byte("abc")
	first := asked(string(text))
	sealed := sums.Seal(string(text))
	opened, err := sums.Open(sealed)
	text[0] = 'x'
	grown := sealed + "more"
	asked(string(text))
	if sealed != "abc\x35\x24\x41\xc2" || opened != "abc" || err != nil || grown[:7] != sealed {
		t.Errorf("an answer has changed: %q, %q, %v", sealed, opened, err)
	}
	if again := asked("abc"); again != first {
		t.Errorf("told %v, want %v", again, first)
	}
}

// overlap tells whether two texts share memory.
func overlap(a, b string) bool {
	if a == "" || b == "" {
		return false
	}
	atA, atB := uintptr(unsafe.Pointer(unsafe.StringData(a))), uintptr(unsafe.Pointer(unsafe.StringData(b)))
	return atA < atB+uintptr(len(b)) && atB < atA+uintptr(len(a))
}

// P4
func TestAnswersAreNewMemory(t *testing.T) {
	for _, s := range texts() {
		sealed := sums.Seal(s)
		opened, err := sums.Open(sealed)
		if err != nil || overlap(s, sealed) || overlap(sealed, opened) || overlap(s, opened) {
			t.Errorf("%d bytes, %.20q: an answer shares memory with what was handed over, or %v", len(s), s, err)
		}
	}
}
