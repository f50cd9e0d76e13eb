package coder_test

import (
	"math/bits"
	"slices"
	"testing"

	"shardkeep/api"
	"shardkeep/coder"
)

func wantAgree(t *testing.T, n, k, size int, l []api.Shard, want bool) {
	t.Helper()
	if got, err := coder.Agree(n, k, size, l); got != want || err != nil {
		t.Errorf("Agree(%d, %d, %d, %#v) = %v, %v, want %v", n, k, size, l, got, err, want)
	}
}

// P32
func TestAgreeOfFew(t *testing.T) {
	a, b, c := api.Shard{At: 0, Text: "ab"}, api.Shard{At: 1, Text: "cd"}, api.Shard{At: 2, Text: "en"}
	wrong := api.Shard{At: 2, Text: "eo"}
	for _, l := range [][]api.Shard{{a, b}, {c, a}, {a, b, c}, {c, b, a}, {a, a, b, c, b}, {a, wrong}, {wrong, b, wrong}} {
		wantAgree(t, 3, 2, 4, l, true)
	}
	for _, l := range [][]api.Shard{{a, b, wrong}, {wrong, a, b}, {a, wrong, b}, {a, b, c, wrong}, {c, wrong, a}, {a, b, wrong, c}} {
		wantAgree(t, 3, 2, 4, l, false)
	}
	wantAgree(t, 2, 1, 3, shards("abc", "abc"), true)
	wantAgree(t, 2, 1, 3, shards("abc", "abd"), false)
	wantAgree(t, 2, 1, 0, shards("", ""), true)
}

// P32: any k shards without a row that is filled up are those of one object.
func TestAnyKAgree(t *testing.T) {
	everySize(func(n, k int) {
		var l []api.Shard
		for i := range k {
			l = append(l, api.Shard{At: n - 1 - i, Text: mixed(3, i*n)})
		}
		wantAgree(t, n, k, 3*k, l, true)
		wantAgree(t, n, k, 3*k, slices.Concat(l, l), true)
	})
}

// P32: no object of that size has other bytes than 0 in what fills up its last rows.
func TestAgreeOfWhatFillsUp(t *testing.T) {
	wantAgree(t, 3, 2, 3, shards("ab", "c\x00"), true)
	wantAgree(t, 3, 2, 3, shards("ab", "c\x01"), false)
	wantAgree(t, 4, 4, 5, shards("ab", "cd", "e\x00", "\x00\x00"), true)
	wantAgree(t, 4, 4, 5, shards("ab", "cd", "e\x00", "\x00\x01"), false)
	wantAgree(t, 4, 4, 5, shards("ab", "cd", "e\x00", "\x01\x00"), false)
	wantAgree(t, 4, 4, 5, shards("ab", "cd", "e\x01", "\x00\x00"), false)
	longer, l := encoded(t, 5, 3, "abcdef"), encoded(t, 5, 3, "abcde\x00")
	for set := range uint(1) << 5 {
		if bits.OnesCount(set) >= 3 {
			wantAgree(t, 5, 3, 6, chosen(longer, set, true), true)
			wantAgree(t, 5, 3, 5, chosen(longer, set, true), false)
			wantAgree(t, 5, 3, 5, chosen(l, set, true), true)
		}
	}
}

// P32: each shard that comes is asked, whichever place it has, and so is each of its bytes.
func TestAgreeAsksEachShardAndByte(t *testing.T) {
	l := encoded(t, 6, 3, mixed(12, 5))
	for i := range l {
		for place := range len(l[i].Text) {
			for bit := range 8 {
				wrong := changed(l, i, place, 1<<bit)
				wantAgree(t, 6, 3, 12, wrong, false)
				wantAgree(t, 6, 3, 12, slices.Concat(l, wrong[i:i+1]), false)
				wantAgree(t, 6, 3, 12, slices.Concat(wrong[i:i+1], l), false)
			}
		}
	}
	wantAgree(t, 6, 3, 12, slices.Concat(l, l), true)
}

// P33: all choices of k shards, of all n and k, in both directions.
func TestAnyKShardsTellTheObject(t *testing.T) {
	everySize(func(n, k int) {
		s := mixed(k+k/2+1, n*k)
		l := encoded(t, n, k, s)
		for set := range uint(1) << n {
			if bits.OnesCount(set) != k {
				continue
			}
			for _, back := range []bool{false, true} {
				some := chosen(l, set, back)
				if got, err := coder.Decode(n, k, len(s), some); got != s || err != nil {
					t.Fatalf("Decode(%d, %d, %d, %#v) = %#v, %v, want %#v", n, k, len(s), some, got, err, s)
				}
			}
			at := int(set) % n
			if got, err := coder.Rebuild(n, k, len(s), at, chosen(l, set, true)); got != l[at] || err != nil {
				t.Fatalf("Rebuild(%d, %d, %d) from %b = %#v, %v, want %#v", n, k, at, set, got, err, l[at])
			}
		}
	})
}

// P33: all choices of k+1 shards, each of them wrong once.
func TestOneWrongDoesNotAgree(t *testing.T) {
	everySize(func(n, k int) {
		s := mixed(k+1, n+k)
		l := encoded(t, n, k, s)
		for set := range uint(1) << n {
			if bits.OnesCount(set) != k+1 {
				continue
			}
			some := chosen(l, set, false)
			wantAgree(t, n, k, len(s), some, true)
			for i := range some {
				wantAgree(t, n, k, len(s), changed(some, i, i%2, byte(set*7+uint(i))|1), false)
			}
		}
		for i := range l {
			if n > k {
				wantAgree(t, n, k, len(s), changed(l, i, 1, 255), false)
			}
		}
	})
}
