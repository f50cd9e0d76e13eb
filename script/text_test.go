package script_test

import (
	"strings"
	"testing"
)

// valid are lines of all commands.
func valid() []string {
	return []string{
		"world a,b,d 3 1", "world a 0 0", "world !,,! 99999 12345", "put 0 abc", "put 9 Z", "get 0", "get 9", "go 0", "go 10", "go 99999", "all", "drop 0", "drop 77777", "twice 0", "twice 100",
		"down a", "down nobody!", "up a", "up ,", "change a,b", "change ,", "change !", "again 0", "again 9", "retry 0", "retry 9", "state 0", "state 9", "fly", "events", "configs", "order",
		"prefer a,b k 1", "prefer , k 0", "prefer a \t 99999",
	}
}

// wrong are lines that are none.
func wrong() []string {
	return []string{
		"", " ", "  ", "\t", "\n", "\x00", "\xff", "what", "ok", "0", "none", "worlds", "worl", "World a 1 1", "WORLD a 1 1", "FLY", "Fly", "fly,", "fly\n", "\nfly", "fly\t", "fly\x00", "fly;", "deliver 0", "play 0", "#", "# fly",
		"world", "world ", "world a", "world a 1", "world a 1 ", "world  1 1", "world a  1", "world a 1 1 1", "world a,b, d 1 1", "world a 01 1", "world a 1 01", "world a 00 1", "world a 1 00", "world a 100000 1", "world a 1 100000",
		"world a -1 1", "world a 1 -1", "world a -0 1", "world a +1 1", "world a 1 +1", "world a x 1", "world a 1 x", "world a 1.0 1", "world a 1 1e0", "world a 1,1", "world 1 1 a", "world\ta 1 1", "world a\t1 1",
		"put", "put ", "put 0", "put 0 ", "put  abc", "put abc", "put abc 0", "put a abc", "put 00 abc", "put 01 abc", "put 10 abc", "put -1 abc", "put +1 abc", "put 1.0 abc", "put 0 a-b", "put 0 a_b", "put 0 a.b", "put 0 a,b", "put 0 abc!",
		"put 0 a b", "put 0 \x00", "put 0 a\x00", "put 0 \xff", "put 0 \xc3", "put 0 \xc3\xa4", "put 0 a\tb", "put 0 abc\n", "put 0 @", "put 0 [", "put 0 `", "put 0 {", "put 0 /", "put 0 :", "put 0 \u0663", "put 0 \u212a", "put 0 -", "put 0\tabc",
		"get", "get ", "get a", "get 00", "get 10", "get 0 0", "get -0", "get /", "get :", "get \u0663", "get \xff", "get \x00", "get 0\n", "get 0,1", "get c0",
		"go", "go ", "go a", "go -1", "go -0", "go +0", "go 00", "go 01", "go 00000", "go 000001", "go 100000", "go 123456", "go 4294967296", "go 18446744073709551616", "go 99999999999999999999999", "go 1_0", "go 1_000", "go 0x1", "go 1.0", "go 1e1", "go \u0663", "go 0 0", "go 1,2", "go /", "go :", "go 0\n",
		"all 0", "all all", "all,", "drop", "drop ", "drop 01", "drop -1", "drop 100000", "drop x", "drop 0 0", "twice", "twice ", "twice 01", "twice -1", "twice 100000", "twice x", "twice 0 0",
		"down", "down ", "down a b", "up", "up ", "up a b", "change", "change ", "change a b", "change a, b", "change a 1 1",
		"again", "again ", "again a", "again 00", "again 10", "again 0 0", "again -1", "retry", "retry ", "retry a", "retry 00", "retry 10", "retry 0 0", "retry -1", "state", "state ", "state a", "state 00", "state 10", "state 0 0", "state -1", "state c0",
		"fly 0", "events 0", "events ,", "configs 0", "order 0", "fly fly",
		"prefer", "prefer a", "prefer a k", "prefer a k ", "prefer  k 1", "prefer a  1", "prefer a k 1 1", "prefer a k 01", "prefer a k 00", "prefer a k -1", "prefer a k +1", "prefer a k 100000", "prefer a k x", "prefer a, b k 1", "prefer a k k 1",
		strings.Repeat("x", 100000), strings.Repeat(" ", 100000), "go " + strings.Repeat("1", 100000), "go " + strings.Repeat("0", 100000), "put 0 " + strings.Repeat("x ", 50000), "world " + strings.Repeat("a ", 50000),
	}
}

// shorten a line for telling it.
func shorten(line string) string { return line[:min(len(line), 50)] }

// isText asks for what answers a line that is none: where there is no world, and where there is one, of which it changes nothing.
func isText(t *testing.T, line string) {
	t.Helper()
	got := run(t, []string{line, "fly", "world b,d 2 1", "put 1 a", line, "fly", "state 0", "state 1", "all", "get 0", line, "all", "events", "configs", "down d", "down a"})
	for _, at := range []int{0, 4, 10} {
		if got[at] != "shardkeep: text" {
			t.Errorf("line %d, %q: answers %q", at, shorten(line), shorten(got[at]))
		}
	}
	rest := strings.Join([]string{got[1], got[5], got[6], got[7], got[8], got[11], got[12], got[13], got[14], got[15]}, ";")
	if want := "shardkeep: none;2;idle;looking;8;8;1 put 1.1 a, 0 get 1.1 a;1 0;ok;shardkeep: none"; rest != want {
		t.Errorf("%q: shows: %q", shorten(line), rest)
	}
}

// P160, P161
func TestLinesThatAreNone(t *testing.T) {
	for _, line := range wrong() {
		isText(t, line)
	}
}

// P160, P161: what is a line, whatever it answers, is no text.
func TestLinesThatAreSome(t *testing.T) {
	for _, line := range valid() {
		got := run(t, []string{line, "world a 1 1", line})
		if got[0] == "shardkeep: text" || got[2] == "shardkeep: text" {
			t.Errorf("%q: answers %q, %q", line, got[0], got[2])
		}
	}
}

// P160, P161: one blank between words, and none elsewhere: with one more anywhere, or one less, a line is none.
func TestOneBlankBetween(t *testing.T) {
	for _, line := range valid() {
		for at := range len(line) + 1 {
			isText(t, line[:at]+" "+line[at:])
			if at < len(line) && line[at] == ' ' {
				isText(t, line[:at]+line[at+1:])
				isText(t, line[:at]+"\t"+line[at+1:])
			}
		}
	}
}

// P160, P161: with a word less, or one more, it is none.
func TestWordsOfALine(t *testing.T) {
	for _, line := range valid() {
		isText(t, line+" 0")
		isText(t, line+" a")
		isText(t, "0 "+line)
		isText(t, strings.ToUpper(line[:1])+line[1:])
		if at := strings.LastIndex(line, " "); at >= 0 {
			isText(t, line[:at])
			isText(t, line[:at+1])
			isText(t, line[at+1:]+" "+line[:at])
		}
	}
}

// P160, P161: of each byte whether it may stand in a text, in a client's digit and in a number.
func TestBytesOfWords(t *testing.T) {
	for b := range 256 {
		c := byte(b)
		s := string([]byte{c})
		digit := c >= '0' && c <= '9'
		letter := c >= 'a' && c <= 'z' || c >= 'A' && c <= 'Z'
		for line, some := range map[string]bool{
			"put 0 " + s: digit || letter, "put 0 x" + s: digit || letter, "put 0 " + s + "x": digit || letter, "put " + s + " x": digit, "get " + s: digit, "again " + s: digit, "retry " + s: digit, "state " + s: digit,
			"go " + s: digit, "go 1" + s: digit, "go " + s + "1": digit && c != '0', "go 1111" + s: digit, "world a 1 " + s: digit, "world a " + s + " 1": digit, "prefer a k " + s: digit,
			"up " + s: c != ' ', "prefer a " + s + " 1": c != ' ', "prefer " + s + " k 1": c != ' ', "change " + s: c != ' ',
		} {
			if !some {
				isText(t, line)
			} else if got := run(t, []string{"world a 1 1", line})[1]; got == "shardkeep: text" {
				t.Errorf("%q is none", line)
			}
		}
	}
}
