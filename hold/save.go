package hold

import (
	"strconv"
	"strings"

	"shardkeep/api"
	"shardkeep/sums"
)

// Save it.
func (h *Hold) Save() (string, error) {
	// It is never too much: MaxHeld versions within their bounds are written whole.
	return sums.Seal(written(h)), nil
}

// Load what was saved.
func Load(s string) (*Hold, error) {
	text, err := sums.Open(s)
	if err != nil {
		return nil, err
	}
	h, ok := read(text)
	// A hold is written in one way only, so that another order, needless zeros, or one version twice are none.
	if !ok || written(h) != text {
		return nil, api.ErrText
	}
	return h, nil
}

// written is 1 if the hold is sealed, else 0, and of each version its key, Tag, Size and S. A number ends with a colon; a text has its length ahead.
func written(h *Hold) string {
	var out strings.Builder
	number := func(n int) {
		out.WriteString(strconv.Itoa(n))
		out.WriteByte(':')
	}
	text := func(s string) {
		number(len(s))
		out.WriteString(s)
	}
	sealed := 0
	if h.Sealed() {
		sealed = 1
	}
	number(sealed)
	for _, key := range h.Keys() {
		for _, v := range h.of(key) {
			text(key)
			number(v.Tag.N)
			number(v.Tag.Who)
			number(v.Size)
			number(v.S.At)
			text(v.S.Text)
		}
	}
	return out.String()
}

func read(text string) (*Hold, bool) {
	in := reader{rest: text}
	sealed := in.number()
	h := &Hold{}
	for in.rest != "" {
		key, v := in.version()
		if in.failed || h.Put(key, v) != nil {
			return nil, false
		}
	}
	// Behind the last version, for nothing is put into what is sealed.
	h.sealed = sealed == 1
	return h, !in.failed
}

// reader of what is written. Where it has failed nothing is left to read.
type reader struct {
	rest   string
	failed bool
}

func (r *reader) fail() { *r = reader{failed: true} }

func (r *reader) number() int {
	digits, rest, found := strings.Cut(r.rest, ":")
	n, err := strconv.Atoi(digits)
	if !found || err != nil {
		r.fail()
		return 0
	}
	r.rest = rest
	return n
}

func (r *reader) text() string {
	size := r.number()
	if size < 0 || size > len(r.rest) {
		r.fail()
		return ""
	}
	text := r.rest[:size]
	r.rest = r.rest[size:]
	return text
}

func (r *reader) version() (string, api.Version) {
	var v api.Version
	key := r.text()
	v.Tag.N = r.number()
	v.Tag.Who = r.number()
	v.Size = r.number()
	v.S.At = r.number()
	v.S.Text = r.text()
	return key, v
}
