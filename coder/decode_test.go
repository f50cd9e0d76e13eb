package coder_test

import (
	"math"
	"slices"
	"strings"
	"testing"

	"shardkeep/api"
	"shardkeep/coder"
)

// chosen has those shards of l whose bits are set, from the last one to the first where back says so.
func chosen(l []api.Shard, set uint, back bool) []api.Shard {
	var out []api.Shard
	for i, x := range l {
		if set>>i&1 == 1 {
			out = append(out, x)
		}
	}
	if back {
		slices.Reverse(out)
	}
	return out
}

// changed has one byte of one shard otherwise.
func changed(l []api.Shard, i, place int, by byte) []api.Shard {
	out := slices.Clone(l)
	text := []byte(out[i].Text)
	text[place] ^= by
	out[i].Text = string(text)
	return out
}

// slowDecode tells the object from the first k shards of l, which must be unlike.
func slowDecode(t *testing.T, k, size int, l []api.Shard) string {
	t.Helper()
	var ats []int
	var texts []string
	for _, x := range l[:k] {
		ats, texts = append(ats, x.At), append(texts, x.Text)
	}
	out := ""
	for row := range k {
		out += through(t, ats, texts, row)
	}
	return out[:size]
}

// wantAll asks for the object and each of its shards.
func wantAll(t *testing.T, n, k int, s string, l []api.Shard) {
	t.Helper()
	if got, err := coder.Decode(n, k, len(s), l); got != s || err != nil {
		t.Errorf("Decode(%d, %d, %d, %#v) = %#v, %v, want %#v", n, k, len(s), l, got, err, s)
	}
	for at, want := range encoded(t, n, k, s) {
		if got, err := coder.Rebuild(n, k, len(s), at, l); got != want || err != nil {
			t.Errorf("Rebuild(%d, %d, %d, %d, %#v) = %#v, %v, want %#v", n, k, len(s), at, l, got, err, want)
		}
	}
}

// wantError asks Decode, Rebuild and Agree for one and the same error.
func wantError(t *testing.T, n, k, size int, l []api.Shard, want error) {
	t.Helper()
	if got, err := coder.Decode(n, k, size, l); got != "" || err != want {
		t.Errorf("Decode(%d, %d, %d, %#v) = %#v, %v, want %v", n, k, size, l, got, err, want)
	}
	last := max(n-1, 0)
	if got, err := coder.Rebuild(n, k, size, last, l); got != (api.Shard{}) || err != want {
		t.Errorf("Rebuild(%d, %d, %d, %d, %#v) = %#v, %v, want %v", n, k, size, last, l, got, err, want)
	}
	if got, err := coder.Agree(n, k, size, l); got || err != want {
		t.Errorf("Agree(%d, %d, %d, %#v) = %v, %v, want %v", n, k, size, l, got, err, want)
	}
}

// P31
func TestDecodeOfFew(t *testing.T) {
	a, b, c := api.Shard{At: 0, Text: "ab"}, api.Shard{At: 1, Text: "cd"}, api.Shard{At: 2, Text: "en"}
	for _, l := range [][]api.Shard{{a, b}, {b, a}, {a, c}, {c, a}, {b, c}, {c, b}, {a, b, c}, {c, b, a}, {a, a, b}, {c, c, c, b, b, a}} {
		wantAll(t, 3, 2, "abcd", l)
	}
	wantAll(t, 2, 1, "abc", []api.Shard{{At: 1, Text: "abc"}})
	wantAll(t, 1, 1, "abc", shards("abc"))
	wantAll(t, 4, 2, "\x01\x00", []api.Shard{{At: 3, Text: "\x02"}, {At: 2, Text: "\x03"}})
}

// P31: a size of 0, of a last row that is filled up, of MaxText.
func TestDecodeOfAllSizes(t *testing.T) {
	everySize(func(n, k int) {
		sizes := []int{999, 1000}
		for size := range 2*k + 2 {
			sizes = append(sizes, size)
		}
		for _, size := range sizes {
			s := mixed(size, n)
			l := encoded(t, n, k, s)
			for name, some := range map[string][]api.Shard{"first": l[:k], "last": l[n-k:], "all": l} {
				if got, err := coder.Decode(n, k, size, some); got != s || err != nil {
					t.Errorf("Decode(%d, %d, %d) of the %s: %#v, %v", n, k, size, name, got, err)
				}
				if got, err := coder.Rebuild(n, k, size, n-1, some); got != l[n-1] || err != nil {
					t.Errorf("Rebuild(%d, %d, %d) of the %s: %#v, %v", n, k, size, name, got, err)
				}
			}
		}
	})
}

// P31: an object of no bytes has empty shards, and still k of them are needed.
func TestDecodeOfNoBytes(t *testing.T) {
	everySize(func(n, k int) {
		l := encoded(t, n, k, "")
		wantAll(t, n, k, "", l[n-k:])
		wantError(t, n, k, 0, l[:k-1], api.ErrFew)
		wantError(t, n, k, 0, changedText(l, n-1, "x"), api.ErrShape)
	})
}

// changedText has one shard's text otherwise.
func changedText(l []api.Shard, i int, text string) []api.Shard {
	out := slices.Clone(l)
	out[i].Text = text
	return out
}

// P31: what comes behind the first k that are unlike is not asked, even if it is wrong, nor is a shard's second coming.
func TestFirstUnlikeAreTaken(t *testing.T) {
	everySize(func(n, k int) {
		s, other := mixed(2*k+1, 1), mixed(2*k+1, 2)
		l, wrong := encoded(t, n, k, s), encoded(t, n, k, other)
		wantAll(t, n, k, s, slices.Concat(l[:k], wrong))
		wantAll(t, n, k, s, slices.Concat(l[n-k:], wrong))
		var twice []api.Shard
		for i := range k {
			twice = append(twice, l[n-1-i], wrong[n-1-i])
		}
		wantAll(t, n, k, s, slices.Concat(l[n-1:], wrong[n-1:], twice, wrong))
		if k > 1 {
			mix := slices.Concat(wrong[:1], l)
			want := slowDecode(t, k, len(s), slices.Concat(wrong[:1], l[1:]))
			if got, err := coder.Decode(n, k, len(s), mix); got != want || err != nil {
				t.Errorf("Decode(%d, %d) of a mix = %#v, %v, want %#v", n, k, got, err, want)
			}
			for at, x := range encoded(t, n, k, want) {
				if got, err := coder.Rebuild(n, k, len(s), at, mix); got != x || err != nil {
					t.Errorf("Rebuild(%d, %d, at %d) of a mix = %#v, %v, want %#v", n, k, at, got, err, x)
				}
			}
		}
	})
}

// P31: what fills up a last row belongs to no object: it is not told, and the shards of the object have 0 there.
func TestWhatFillsUpIsNotTold(t *testing.T) {
	wantAll(t, 3, 2, "abc", shards("ab", "cd"))
	wantAll(t, 3, 2, "abc", []api.Shard{{At: 1, Text: "cd"}, {At: 0, Text: "ab"}})
	wantAll(t, 4, 4, "abcde", shards("ab", "cd", "ef", "gh"))
}

// P31
func TestDecodeOfWrongNumbers(t *testing.T) {
	for _, n := range aroundBounds() {
		for _, k := range aroundBounds() {
			if k < 1 || k > n || n > 12 {
				for _, size := range []int{0, 4} {
					wantError(t, n, k, size, nil, api.ErrBound)
					wantError(t, n, k, size, shards("ab", "cd", "en"), api.ErrBound)
				}
			}
		}
	}
}

// P31
func TestDecodeOfWrongSizes(t *testing.T) {
	for _, size := range []int{math.MinInt, -1000, -2, -1, 1001, 1002, math.MaxInt - 11, math.MaxInt} {
		wantError(t, 3, 2, size, nil, api.ErrBound)
		wantError(t, 3, 2, size, shards("ab", "cd", "en"), api.ErrBound)
		wantError(t, 1, 1, size, shards(strings.Repeat("x", 1001)), api.ErrBound)
		wantError(t, 12, 12, size, shards("", "", "", "", "", "", "", "", "", "", "", ""), api.ErrBound)
	}
}

// P31: a place outside 0 to n - 1, also behind the first k.
func TestDecodeOfWrongPlaces(t *testing.T) {
	everySize(func(n, k int) {
		l := encoded(t, n, k, mixed(k, 1))
		for _, at := range []int{math.MinInt, -256, -n, -1, n, n + 1, 12, 255, 256, math.MaxInt} {
			wrong := []api.Shard{{At: at, Text: l[0].Text}}
			wantError(t, n, k, k, slices.Concat(wrong, l), api.ErrShape)
			wantError(t, n, k, k, slices.Concat(l[:k-1], wrong, l[k-1:]), api.ErrShape)
			wantError(t, n, k, k, slices.Concat(l, wrong), api.ErrShape)
		}
	})
}

// P31: a shard of another length, also behind the first k, and one that comes again.
func TestDecodeOfWrongLengths(t *testing.T) {
	everySize(func(n, k int) {
		for _, size := range []int{k + 1, 2 * k} {
			l := encoded(t, n, k, mixed(size, 1))
			for _, text := range []string{"", "x", "xyz", strings.Repeat("x", 2*k+2), strings.Repeat("x", 1001)} {
				for i := range l {
					wantError(t, n, k, size, changedText(l, i, text), api.ErrShape)
					wantError(t, n, k, size, append(slices.Clone(l), api.Shard{At: i, Text: text}), api.ErrShape)
				}
			}
			wantError(t, n, k, 2*k+1, l, api.ErrShape)
			wantError(t, n, k, k, l, api.ErrShape)
			wantError(t, n, k, 0, l, api.ErrShape)
			wantError(t, n, k, 1000, l, api.ErrShape)
		}
	})
}

// P31: each number of shards below k, those that come twice counted once.
func TestDecodeOfTooFew(t *testing.T) {
	everySize(func(n, k int) {
		size := k + 1
		l := encoded(t, n, k, mixed(size, 3))
		wantError(t, n, k, size, nil, api.ErrFew)
		wantError(t, n, k, size, []api.Shard{}, api.ErrFew)
		for few := 1; few < k; few++ {
			some := l[n-few:]
			wantError(t, n, k, size, some, api.ErrFew)
			wantError(t, n, k, size, slices.Repeat(some, k), api.ErrFew)
			wantError(t, n, k, size, slices.Concat(some, changed(some, 0, 0, 1)), api.ErrFew)
		}
	})
}

// P31
func TestRebuildOfWrongPlaces(t *testing.T) {
	everySize(func(n, k int) {
		l := encoded(t, n, k, mixed(k, 1))
		for _, at := range []int{math.MinInt, -256, -12, -2, -1, n, n + 1, 12, 13, 255, 256, math.MaxInt} {
			if got, err := coder.Rebuild(n, k, k, at, l); got != (api.Shard{}) || err != api.ErrBound {
				t.Errorf("Rebuild(%d, %d, at %d) = %#v, %v", n, k, at, got, err)
			}
		}
	})
}

// P31, P3: of several errors the first that is named is told, also of what stands behind the first k.
func TestOrderOfErrors(t *testing.T) {
	wrongPlace := []api.Shard{{At: 3, Text: "ab"}}
	wrongLength := []api.Shard{{At: 0, Text: "abc"}}
	for _, l := range [][]api.Shard{wrongPlace, wrongLength} {
		wantError(t, 3, 4, 4, l, api.ErrBound)
		wantError(t, 3, 2, -1, l, api.ErrBound)
		wantError(t, 3, 2, 1001, l, api.ErrBound)
		wantError(t, 3, 2, 4, l, api.ErrShape)
		for _, at := range []int{-1, 3} {
			if got, err := coder.Rebuild(3, 2, 4, at, l); got != (api.Shard{}) || err != api.ErrBound {
				t.Errorf("Rebuild(3, 2, 4, %d, %#v) = %#v, %v", at, l, got, err)
			}
		}
	}
	for _, at := range []int{-1, 3} {
		if got, err := coder.Rebuild(3, 2, 4, at, nil); got != (api.Shard{}) || err != api.ErrBound {
			t.Errorf("Rebuild(3, 2, 4, %d) of none = %#v, %v", at, got, err)
		}
	}
}

// P1, P31: what fits is what Decode does not refuse, also where k is no number to divide by.
func TestFits(t *testing.T) {
	numbers := append(aroundBounds(), 4, 999, 1000, 1001)
	for _, n := range numbers {
		for _, k := range numbers {
			for _, size := range numbers {
				for _, x := range []api.Shard{{}, {At: n - 1, Text: "ab"}, {At: n}, {At: -1}, {Text: "ab"}, {Text: mixed(1000, 1)}} {
					_, err := coder.Decode(n, k, size, []api.Shard{x})
					if got, want := coder.Fits(n, k, size, x), err == nil || err == api.ErrFew; got != want {
						t.Errorf("Fits(%d, %d, %d, shard %d of %d bytes) = %v, want %v", n, k, size, x.At, len(x.Text), got, want)
					}
				}
			}
		}
	}
}
