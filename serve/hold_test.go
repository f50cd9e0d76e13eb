package serve_test

import (
	"math"
	"strconv"
	"testing"

	"shardkeep/api"
	"shardkeep/serve"
)

// numbers of configurations, as many as a member has; one is the greatest that there is.
func numbers() []int {
	var l []int
	for i := range api.MaxConfigs - 1 {
		l = append(l, i*i)
	}
	return append(l, math.MaxInt)
}

// P100: whichever is asked for first; each has its own hold.
func TestConfigurationsUpToMaxConfigs(t *testing.T) {
	for turn := range api.MaxConfigs {
		m := member(t)
		for i := range api.MaxConfigs {
			config := numbers()[(i+turn)%api.MaxConfigs]
			switch (i + turn) % 3 {
			case 0:
				answers(t, "look", m.Hear(asking("look", config)), answer("told", config, false))
			case 1:
				answers(t, "keep", m.Hear(asking("keep", config, version(i, 0, "v"))), answer("kept", config, false))
			case 2:
				answers(t, "seal", m.Hear(asking("seal", config)), answer("sealed", config, false))
			}
		}
		for _, config := range []int{2, 3, 5, 12, 13, 99, math.MaxInt - 1} {
			for _, kind := range []string{"look", "keep", "seal"} {
				answers(t, "beyond", m.Hear(asking(kind, config, version(1, 0, "v"))))
			}
			if m.Hold(config) != nil {
				t.Errorf("there is a hold of %d", config)
			}
		}
		for i := range api.MaxConfigs {
			config := numbers()[(i+turn)%api.MaxConfigs]
			var l []api.Version
			if (i+turn)%3 == 1 {
				l = append(l, version(i, 0, "v"))
			}
			answers(t, strconv.Itoa(config), m.Hear(asking("look", config)), answer("told", config, (i+turn)%3 == 2, l...))
		}
	}
}

// P100: what is passed over, and what Hold was asked for, takes no configuration's room.
func TestWhatIsPassedOverTakesNoRoom(t *testing.T) {
	m := member(t)
	for config := range 100 {
		for _, x := range passedOver(asking("look", config)) {
			m.Hear(x)
		}
		m.Hear(asking("keep", config))
		m.Hear(asking("keep", config, version(1, 0, "v"), version(2, 0, "v")))
		if m.Hold(config) != nil {
			t.Errorf("there is a hold of %d", config)
		}
	}
	for _, config := range numbers() {
		answers(t, "look", m.Hear(asking("look", config)), answer("told", config, false))
	}
	answers(t, "beyond", m.Hear(asking("look", 2)))
}

// P100: a put that fails was asked for nevertheless.
func TestAKeepThatFailsIsAskedFor(t *testing.T) {
	m := member(t)
	for config := range api.MaxConfigs {
		answers(t, "keep", m.Hear(asking("keep", config, version(-1, 0, "v"))))
		if h := m.Hold(config); h == nil || h.Count() != 0 || h.Sealed() {
			t.Errorf("%d: its hold is %v", config, h)
		}
	}
	answers(t, "beyond", m.Hear(asking("look", api.MaxConfigs)))
	answers(t, "look", m.Hear(asking("look", 0)), answer("told", 0, false))
}

// P101: nil where it was not asked for; Hold itself asks for nothing.
func TestHoldOfNone(t *testing.T) {
	m := member(t)
	all := append(numbers(), -1, math.MinInt, 2)
	for range 2 {
		for _, config := range all {
			if h := m.Hold(config); h != nil {
				t.Errorf("%d: its hold is %v", config, h)
			}
		}
	}
	m.Hear(asking("look", 1))
	for _, config := range all {
		if h := m.Hold(config); (h != nil) != (config == 1) {
			t.Errorf("%d: its hold is %v", config, h)
		}
	}
}

// P101, P4: it is the member's own: what is done to it shows, and the other way.
func TestHoldIsItsOwn(t *testing.T) {
	m := member(t)
	v, w, x := version(1, 0, "one"), version(2, 0, "two"), version(3, 0, "three")
	keeps(t, m, 1, v)
	keeps(t, m, 2, x)
	h := m.Hold(1)
	if err := h.Put("key", w); err != nil {
		t.Fatal(err)
	}
	answers(t, "put", m.Hear(asking("look", 1)), answer("told", 1, false, v, w))
	keeps(t, m, 1, x)
	if h != m.Hold(1) || h == m.Hold(2) || h.Count() != 3 {
		t.Errorf("it holds %d", h.Count())
	}
	h.Trim("key", 1)
	answers(t, "trimmed", m.Hear(asking("look", 1)), answer("told", 1, false, x))
	h.Seal()
	answers(t, "sealed", m.Hear(asking("keep", 1, v)), answer("kept", 1, true))
	answers(t, "sealed", m.Hear(asking("look", 1)), answer("told", 1, true, x))
	h.Wipe()
	answers(t, "wiped", m.Hear(asking("look", 1)), answer("told", 1, false))
	answers(t, "the other one", m.Hear(asking("look", 2)), answer("told", 2, false, x))
	m.Hear(asking("seal", 1))
	if !h.Sealed() || m.Hold(2).Sealed() {
		t.Error("the seal of another one")
	}
}

// P101: behind it a member is as at the beginning, and keeps its name.
func TestWipe(t *testing.T) {
	m := member(t)
	for _, config := range numbers() {
		keeps(t, m, config, version(1, 0, "one"))
		m.Hear(asking("seal", config))
	}
	for range 2 {
		m.Wipe()
		for _, config := range numbers() {
			if h := m.Hold(config); h != nil {
				t.Errorf("%d: its hold is %v", config, h)
			}
		}
	}
	for i := range api.MaxConfigs {
		answers(t, "anew", m.Hear(asking("look", 50+i)), answer("told", 50+i, false))
		keeps(t, m, 50+i, version(2, 0, "two"))
	}
	answers(t, "beyond", m.Hear(asking("look", numbers()[0])))
	m.Wipe()
	answers(t, "one of those before", m.Hear(asking("look", numbers()[0])), answer("told", numbers()[0], false))
}

// P101: of a member that was asked for nothing yet.
func TestWipeAtFirst(t *testing.T) {
	m := member(t)
	m.Wipe()
	keeps(t, m, 0, version(1, 0, "one"))
}

// P101: a hold from before a Wipe is the member's no more.
func TestAHoldBehindWipe(t *testing.T) {
	m := member(t)
	keeps(t, m, 1, version(1, 0, "one"))
	old := m.Hold(1)
	m.Wipe()
	old.Put("key", version(2, 0, "two"))
	old.Seal()
	if m.Hold(1) != nil {
		t.Error("it came back")
	}
	answers(t, "anew", m.Hear(asking("look", 1)), answer("told", 1, false))
	keeps(t, m, 1, version(3, 0, "three"))
	if m.Hold(1) == old {
		t.Error("it came back")
	}
}

// P101: members know nothing of each other.
func TestMembersOfOneName(t *testing.T) {
	a, b := member(t), member(t)
	keeps(t, a, 1, version(1, 0, "one"))
	a.Hear(asking("seal", 1))
	answers(t, "the other one", b.Hear(asking("look", 1)), answer("told", 1, false))
	b.Wipe()
	answers(t, "the first", a.Hear(asking("look", 1)), answer("told", 1, true, version(1, 0, "one")))
	var none *serve.Member
	none.Wipe()
	answers(t, "the first", a.Hear(asking("look", 1)), answer("told", 1, true, version(1, 0, "one")))
}
