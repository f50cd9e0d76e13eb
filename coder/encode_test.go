package coder_test

import (
	"math"
	"slices"
	"strings"
	"testing"

	"shardkeep/api"
	"shardkeep/coder"
	"shardkeep/field"
)

// everySize calls f with all n and k that are in bounds.
func everySize(f func(n, k int)) {
	for n := 1; n <= api.MaxShards; n++ {
		for k := 1; k <= n; k++ {
			f(n, k)
		}
	}
}

// mixed is a text of all kinds of bytes, 0 among them.
func mixed(size, seed int) string {
	text := make([]byte, size)
	for i := range text {
		text[i] = byte(i*i*7 + i*(31+seed) + seed*59)
	}
	return string(text)
}

// laid has the object's bytes in k rows.
func laid(k int, s string) []string {
	width := 0
	for width*k < len(s) {
		width++
	}
	s += strings.Repeat("\x00", width*k-len(s))
	out := make([]string, k)
	for i := range out {
		out[i] = s[i*width : (i+1)*width]
	}
	return out
}

// through tells the bytes at place x of the polynomials that have at the places ats what texts has there: what Spread makes, without a matrix.
func through(t *testing.T, ats []int, texts []string, x int) string {
	t.Helper()
	xs := make([]byte, len(ats))
	for i, at := range ats {
		xs[i] = byte(at)
	}
	var out []byte
	for column := range len(texts[0]) {
		ys := make([]byte, len(texts))
		for i, text := range texts {
			ys[i] = text[column]
		}
		y, err := field.Between(xs, ys, byte(x))
		if err != nil {
			t.Fatal(err)
		}
		out = append(out, y)
	}
	return string(out)
}

func slowEncode(t *testing.T, n, k int, s string) []api.Shard {
	t.Helper()
	ats := make([]int, k)
	for i := range ats {
		ats[i] = i
	}
	out := make([]api.Shard, n)
	for i := range out {
		out[i] = api.Shard{At: i, Text: through(t, ats, laid(k, s), i)}
	}
	return out
}

// encoded is Encode where it must not fail.
func encoded(t *testing.T, n, k int, s string) []api.Shard {
	t.Helper()
	l, err := coder.Encode(n, k, s)
	if err != nil || len(l) != n {
		t.Fatalf("Encode(%d, %d, %#v) = %#v, %v", n, k, s, l, err)
	}
	return l
}

// shards has the texts as shards 0 and on.
func shards(texts ...string) []api.Shard {
	out := make([]api.Shard, len(texts))
	for i, text := range texts {
		out[i] = api.Shard{At: i, Text: text}
	}
	return out
}

// P30: those that the document tells, and such that are worked out by hand: Spread(3, 2) ends with 3, 2, Spread(4, 2) with 2, 3.
func TestEncodeOfFew(t *testing.T) {
	for _, c := range []struct {
		n, k int
		s    string
		want []api.Shard
	}{
		{2, 1, "abc", shards("abc", "abc")},
		{3, 2, "abcd", shards("ab", "cd", "en")},
		{3, 2, "abc", shards("ab", "c\x00", "e\xa6")},
		{1, 1, "abc", shards("abc")},
		{1, 1, "", shards("")},
		{3, 3, "abcdef", shards("ab", "cd", "ef")},
		{3, 3, "abcd", shards("ab", "cd", "\x00\x00")},
		{4, 4, "abcde", shards("ab", "cd", "e\x00", "\x00\x00")},
		{3, 3, "a", shards("a", "\x00", "\x00")},
		{4, 2, "\x01\x00", shards("\x01", "\x00", "\x03", "\x02")},
		{4, 2, "\x00\x01", shards("\x00", "\x01", "\x02", "\x03")},
		{4, 2, "\x00\x00", shards("\x00", "\x00", "\x00", "\x00")},
		{3, 2, "", shards("", "", "")},
		{12, 12, "", shards("", "", "", "", "", "", "", "", "", "", "", "")},
	} {
		if got, err := coder.Encode(c.n, c.k, c.s); !slices.Equal(got, c.want) || err != nil {
			t.Errorf("Encode(%d, %d, %#v) = %#v, %v, want %#v", c.n, c.k, c.s, got, err, c.want)
		}
	}
}

// P30: all n and k, and all ways in which a last row can be filled up.
func TestEncodeOfAll(t *testing.T) {
	everySize(func(n, k int) {
		for size := range 3*k + 2 {
			s := mixed(size, n+k)
			if got, err := coder.Encode(n, k, s); !slices.Equal(got, slowEncode(t, n, k, s)) || err != nil {
				t.Errorf("Encode(%d, %d, %#v) = %#v, %v", n, k, s, got, err)
			}
		}
	})
}

// P30: the longest object, and one more byte.
func TestEncodeUpToTheBound(t *testing.T) {
	everySize(func(n, k int) {
		for _, size := range []int{999, 1000} {
			s := mixed(size, k)
			if got, err := coder.Encode(n, k, s); !slices.Equal(got, slowEncode(t, n, k, s)) || err != nil {
				t.Errorf("Encode(%d, %d) of %d bytes: %v", n, k, size, err)
			}
		}
		for _, size := range []int{1001, 1002, 5000} {
			if got, err := coder.Encode(n, k, mixed(size, k)); got != nil || err != api.ErrBound {
				t.Errorf("Encode(%d, %d) of %d bytes = %#v, %v", n, k, size, got, err)
			}
		}
	})
}

// P30: bytes are counted, not letters.
func TestEncodeCountsBytes(t *testing.T) {
	if got, err := coder.Encode(2, 2, "é"); !slices.Equal(got, shards("\xc3", "\xa9")) || err != nil {
		t.Errorf("Encode of one letter of two bytes = %#v, %v", got, err)
	}
	if got, err := coder.Encode(2, 2, strings.Repeat("é", 501)); got != nil || err != api.ErrBound {
		t.Errorf("Encode of 501 letters of two bytes = %#v, %v", got, err)
	}
	if got, err := coder.Encode(1, 1, "\xff\x80\x00"); !slices.Equal(got, shards("\xff\x80\x00")) || err != nil {
		t.Errorf("Encode of bytes that are no letters = %#v, %v", got, err)
	}
}

// aroundBounds are numbers at, outside, and far outside those of n and k.
func aroundBounds() []int {
	out := []int{math.MinInt, math.MinInt + 1, math.MinInt32, -256, -255, -12, 16, 255, 256, 257, 268, math.MaxInt32, math.MaxInt - 1, math.MaxInt}
	for n := -2; n <= api.MaxShards+2; n++ {
		out = append(out, n)
	}
	return out
}

// P30
func TestEncodeOfWrongNumbers(t *testing.T) {
	for _, n := range aroundBounds() {
		for _, k := range aroundBounds() {
			wrong := k < 1 || k > n || n > 12
			for _, s := range []string{"", "abc"} {
				got, err := coder.Encode(n, k, s)
				if wrong && (got != nil || err != api.ErrBound) || !wrong && (len(got) != n || err != nil) {
					t.Errorf("Encode(%d, %d, %#v) = %#v, %v", n, k, s, got, err)
				}
			}
		}
	}
}
