package serve_test

import (
	"math"
	"math/rand/v2"
	"slices"
	"strings"
	"sync"
	"testing"
	"unsafe"

	"shardkeep/api"
	"shardkeep/plain"
	"shardkeep/serve"
	"shardkeep/wire"
)

// conversation is what a member hears: all kinds, of several configurations.
func conversation() []wire.Message {
	r := rand.New(rand.NewPCG(1, 2))
	var l []wire.Message
	for step := range 200 {
		kinds := []string{"look", "keep", "keep"}
		if step > 120 {
			kinds = append(kinds, "seal")
		}
		l = append(l, anyMessage(r, 4, kinds...))
	}
	return l
}

// heard is all that a member answers.
func heard(m *serve.Member, l []wire.Message) [][]wire.Message {
	var all [][]wire.Message
	for _, x := range l {
		all = append(all, m.Hear(x))
	}
	return all
}

func sameAll(a, b [][]wire.Message) bool {
	return slices.EqualFunc(a, b, func(a, b []wire.Message) bool { return slices.EqualFunc(a, b, same) })
}

// usual is what a member answers to the conversation, and is of use to hold others against.
func usual(t *testing.T) [][]wire.Message {
	t.Helper()
	all := heard(member(t), conversation())
	versions, sealed := 0, 0
	for _, x := range slices.Concat(all...) {
		versions += len(x.L)
		if x.Sealed {
			sealed++
		}
	}
	if versions < 50 || sealed < 10 {
		t.Fatalf("%d versions, %d sealed: of no use", versions, sealed)
	}
	return all
}

// P1: that the test ends is what it asks.
func TestEveryCallEnds(t *testing.T) {
	long := strings.Repeat("\xff\x00", 1<<12)
	texts := []string{"", "a", "member", long}
	numbers := []int{math.MinInt, -1, 0, 1, 12, math.MaxInt}
	lists := [][]api.Version{nil, {}, {version(1, 1, "a")}, {{Tag: api.Tag{N: math.MinInt, Who: math.MaxInt}, Size: math.MinInt, S: api.Shard{At: math.MaxInt, Text: long}}}, make([]api.Version, 1<<12)}
	for _, name := range texts {
		m, _ := serve.New(name)
		for _, kind := range []string{"", "look", "keep", "seal", "told", long} {
			for _, text := range texts {
				for _, n := range numbers {
					for _, l := range lists {
						m.Hear(wire.Message{From: text, To: name, Kind: kind, Key: "a", Op: n, Config: n, Sealed: true, L: l})
						m.Hear(wire.Message{From: name, To: text, Kind: kind, Key: text, Op: n, Config: n, L: l})
					}
					h := m.Hold(n)
					h.Seal()
					h.Wipe()
				}
			}
			m.Wipe()
		}
	}
}

// P1, P3: what New answers beside an error takes calls, too.
func TestAMemberThatIsNone(t *testing.T) {
	m, err := serve.New("")
	if m != nil || err != api.ErrName {
		t.Fatalf("told %v, %v", m, err)
	}
	for _, to := range []string{"", "member"} {
		for _, x := range []wire.Message{asking("look", 0), asking("keep", 0, version(1, 1, "a")), asking("seal", 0)} {
			x.To = to
			answers(t, x.Kind, m.Hear(x))
		}
	}
	m.Wipe()
	if m.Hold(0) != nil {
		t.Error("it has a hold")
	}
}

// P2: many members at the same time, that hear the same messages.
func TestAnswersHangOnNothingElse(t *testing.T) {
	want, messages := usual(t), conversation()
	var got [16][][]wire.Message
	var wait sync.WaitGroup
	for i := range got {
		wait.Go(func() {
			other, _ := serve.New("other")
			heard(other, messages[i:])
			m, _ := serve.New("member")
			got[i] = heard(m, messages)
			other.Wipe()
		})
	}
	wait.Wait()
	for i, x := range got {
		if !sameAll(x, want) {
			t.Errorf("worker %d was answered otherwise", i)
		}
	}
}

// P2: members by turns, of one name and of others.
func TestMembersByTurns(t *testing.T) {
	want := usual(t)
	a, b, wiped := member(t), member(t), member(t)
	var gotA, gotB [][]wire.Message
	for _, x := range conversation() {
		gotA = append(gotA, a.Hear(x))
		wiped.Hear(x)
		gotB = append(gotB, b.Hear(x))
		wiped.Wipe()
	}
	if !sameAll(gotA, want) || !sameAll(gotB, want) {
		t.Error("answered otherwise")
	}
}

// P3, P5: the error by its number, bare.
func TestErrorByNumber(t *testing.T) {
	for _, name := range noNames() {
		m, err := serve.New(name)
		if code, at := plain.Code(err); m != nil || code != 4 || at != -1 {
			t.Errorf("%q: %d at %d", name, code, at)
		}
	}
}

// P3: what lies behind a list's length is neither read nor written.
func TestWhatLiesBehindIsNotThere(t *testing.T) {
	want, m := usual(t), member(t)
	behind := version(3, 0, "behind")
	var got [][]wire.Message
	for _, x := range conversation() {
		l := append(slices.Clone(x.L), behind, behind)
		x.L = l[:len(x.L)]
		got = append(got, m.Hear(x))
		if !slices.Equal(l[len(x.L):], []api.Version{behind, behind}) {
			t.Error("written behind a list")
		}
	}
	if !sameAll(got, want) {
		t.Error("what lies behind was read")
	}
	answers(t, "none, and one behind", m.Hear(asking("keep", 0, []api.Version{behind}[:0]...)))
}

// P4: what was handed over is changed behind each call.
func TestWhatIsHandedOverIsOnlyReadAndNotKept(t *testing.T) {
	want, m := usual(t), member(t)
	var got [][]wire.Message
	for _, x := range conversation() {
		own := x
		own.L = slices.Clone(x.L)
		got = append(got, m.Hear(own))
		if !same(own, x) {
			t.Errorf("written into %v", x)
		}
		for i := range own.L {
			own.L[i] = version(77, 7, "changed")
		}
	}
	if !sameAll(got, want) {
		t.Error("a later change shows")
	}
}

// P4: what was answered is changed behind each call.
func TestWhatIsWrittenIntoAnAnswerDoesNotShow(t *testing.T) {
	want, m := usual(t), member(t)
	var got [][]wire.Message
	for _, x := range conversation() {
		l := m.Hear(x)
		var copies []wire.Message
		for i, y := range l {
			y.L = slices.Clone(y.L)
			copies = append(copies, y)
			for j := range l[i].L {
				l[i].L[j] = version(88, 8, "written")
			}
			_ = append(l[i].L, version(99, 9, "behind"))
			l[i] = wire.Message{From: "gone"}
		}
		_ = append(l, wire.Message{From: "more"})
		got = append(got, copies)
	}
	if !sameAll(got, want) {
		t.Error("what was written shows")
	}
}

// P4: what is heard later does not show in an answer.
func TestAnswersStayAsTheyWere(t *testing.T) {
	m := member(t)
	v, w := version(1, 0, "one"), version(2, 0, "two")
	keeps(t, m, 1, w)
	looked, sealed := m.Hear(asking("look", 1)), []wire.Message(nil)
	keeps(t, m, 1, v)
	m.Hold(1).Trim("key", 1)
	sealed = m.Hear(asking("seal", 1))
	m.Hold(1).Trim("key", 0)
	m.Wipe()
	answers(t, "look", looked, answer("told", 1, false, w))
	answers(t, "seal", sealed, answer("sealed", 1, false, w))
}

// overlap tells whether two texts share memory.
func overlap(a, b string) bool {
	if a == "" || b == "" {
		return false
	}
	atA, atB := uintptr(unsafe.Pointer(unsafe.StringData(a))), uintptr(unsafe.Pointer(unsafe.StringData(b)))
	return atA < atB+uintptr(len(b)) && atB < atA+uintptr(len(a))
}

// texts are those of messages, but for Kind, which the program has as a constant.
func texts(l ...wire.Message) []string {
	var all []string
	for _, x := range l {
		all = append(all, x.From, x.To, x.Key)
		for _, v := range x.L {
			all = append(all, v.S.Text)
		}
	}
	return all
}

// P4
func TestTextsOfAnswersAreNewMemory(t *testing.T) {
	name := strings.Clone("member")
	m, err := serve.New(name)
	if err != nil {
		t.Fatal(err)
	}
	in := []string{name}
	var out []string
	for _, x := range []wire.Message{asking("keep", 1, version(1, 0, "one")), asking("keep", 1, version(2, 0, "two")), asking("look", 1), asking("look", 1), asking("seal", 1), asking("seal", 1), asking("keep", 1, version(3, 0, "three"))} {
		in = append(in, texts(x)...)
		out = append(out, texts(m.Hear(x)...)...)
	}
	for _, v := range m.Hold(1).Get("key") {
		out = append(out, v.S.Text)
	}
	if len(out) != 3*7+2*4+2 {
		t.Fatalf("%d texts: of no use", len(out))
	}
	for i, x := range out {
		for _, y := range slices.Concat(in, out[i+1:]) {
			if overlap(x, y) {
				t.Errorf("%q and %q share memory", x, y)
			}
		}
	}
}

// P4: texts whose bytes are changed later, as no text's are by the language's own means.
func TestTextsAreNotKept(t *testing.T) {
	want := usual(t)
	var all [][]byte
	text := func(s string) string {
		if s == "" {
			return ""
		}
		bytes := []byte(s)
		all = append(all, bytes)
		return unsafe.String(&bytes[0], len(bytes))
	}
	spoil := func() {
		for _, bytes := range all {
			clear(bytes)
		}
	}
	m, err := serve.New(text("member"))
	spoil()
	if err != nil {
		t.Fatal(err)
	}
	var got [][]wire.Message
	for _, x := range conversation() {
		own := x
		own.From, own.To, own.Kind, own.Key, own.L = text(x.From), text(x.To), text(x.Kind), text(x.Key), nil
		for _, v := range x.L {
			v.S.Text = text(v.S.Text)
			own.L = append(own.L, v)
		}
		got = append(got, m.Hear(own))
		spoil()
	}
	if !sameAll(got, want) {
		t.Error("a later change shows")
	}
}
