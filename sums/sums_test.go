package sums_test

import (
	"hash/crc32"
	"hash/fnv"
	"strings"
	"testing"

	"shardkeep/sums"
)

// mixed is a text of all kinds of bytes, 0 among them, that hangs on seed alone.
func mixed(size int, seed uint32) string {
	text := make([]byte, size)
	for i := range text {
		seed = seed*1664525 + 1013904223
		text[i] = byte(seed >> 24)
	}
	return string(text)
}

// texts are of many lengths and of bytes from all over, also of such as are no letters of any alphabet.
func texts() []string {
	l := []string{"", "a", "abc", "shard", "änder", "\x00", "\x00\x00\x00\x00", "\xff\xff\xff\xff", "\x80\xc3\x28", "a\x00", "\x00a"}
	for size := range 70 {
		l = append(l, mixed(size, uint32(size)), strings.Repeat("\x00", size), strings.Repeat("\xff", size))
	}
	return append(l, mixed(999, 1), mixed(1000, 2), mixed(4000, 3), mixed(100000, 4))
}

// slowCRC divides bit by bit, with the highest power first and 33 bits of divisor: another way than the package's own.
func slowCRC(s string) uint32 {
	var in []byte
	for _, b := range []byte(s) {
		for bit := range 8 {
			in = append(in, b>>bit&1)
		}
	}
	in = append(in, make([]byte, 32)...)
	for i := range 32 {
		in[i] ^= 1
	}
	for i := range len(in) - 32 {
		if in[i] == 0 {
			continue
		}
		for j := range 33 {
			in[i+j] ^= byte(uint64(0x104C11DB7) >> (32 - j) & 1)
		}
	}
	out := uint32(0)
	for i, bit := range in[len(in)-32:] {
		out |= uint32(bit^1) << i
	}
	return out
}

// P40
func TestCRCOfKnownTexts(t *testing.T) {
	for s, want := range map[string]uint32{
		"":                 0,
		"a":                0xE8B7BE43,
		"abc":              0x352441C2,
		"123456789":        0xCBF43926,
		"\x00":             0xD202EF8D,
		"\x00\x00\x00\x00": 0x2144DF1C,
		"\xff":             0xFF000000,
		"\xff\xff\xff\xff": 0xFFFFFFFF,
	} {
		if got := sums.CRC(s); got != want {
			t.Errorf("CRC(%q) = %#x, want %#x", s, got, want)
		}
	}
}

// P40
func TestCRCIsTheOneInUse(t *testing.T) {
	for _, s := range texts() {
		want := crc32.ChecksumIEEE([]byte(s))
		if got := sums.CRC(s); got != want || got != slowCRC(s) {
			t.Errorf("CRC of %d bytes, %.20q = %#x, want %#x", len(s), s, got, want)
		}
	}
	for a := range 256 {
		for b := range 256 {
			s := string([]byte{byte(a), byte(b)})
			if got, want := sums.CRC(s), crc32.ChecksumIEEE([]byte(s)); got != want {
				t.Fatalf("CRC(%q) = %#x, want %#x", s, got, want)
			}
		}
	}
}

// P40
func TestHashOfKnownTexts(t *testing.T) {
	for s, want := range map[string]uint32{
		"":          2166136261,
		"a":         0xE40C292C,
		"b":         0xE70C2DE5,
		"foobar":    0xBF9CF968,
		"123456789": 0xBB86B11C,
		"\x00":      0x050C5D1F,
	} {
		if got := sums.Hash(s); got != want {
			t.Errorf("Hash(%q) = %#x, want %#x", s, got, want)
		}
	}
}

// P40
func TestHashTakesXorAheadOfTimes(t *testing.T) {
	for _, s := range texts() {
		h := fnv.New32a()
		h.Write([]byte(s))
		if got, want := sums.Hash(s), h.Sum32(); got != want {
			t.Errorf("Hash of %d bytes, %.20q = %#x, want %#x", len(s), s, got, want)
		}
		// The same by numbers that never wrap round.
		slow := uint64(2166136261)
		for _, b := range []byte(s) {
			slow = (slow ^ uint64(b)) * 16777619 % (1 << 32)
		}
		if got := sums.Hash(s); uint64(got) != slow {
			t.Errorf("Hash of %d bytes, %.20q = %d, want %d", len(s), s, got, slow)
		}
	}
}
