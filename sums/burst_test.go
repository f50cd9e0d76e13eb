package sums_test

import (
	"testing"

	"shardkeep/api"
	"shardkeep/sums"
)

// turned has the bits of pattern turned, its lowest one at bit number first of the text: bits of a byte from the lowest on.
func turned(s string, first int, pattern uint64) string {
	text := []byte(s)
	for bit := first; pattern != 0; bit++ {
		text[bit/8] ^= byte(pattern&1) << (bit % 8)
		pattern >>= 1
	}
	return string(text)
}

// seen asks that a text is not opened of which bits are turned behind the sealing.
func seen(t *testing.T, s string, first int, pattern uint64) {
	t.Helper()
	if got, err := sums.Open(turned(sums.Seal(s), first, pattern)); got != "" || err != api.ErrSum {
		t.Errorf("%d bytes, bits %b turned from %d on: %.20q, %v", len(s), pattern, first, got, err)
	}
}

// bursts are patterns of just that many bits, the first and the last of them turned.
func bursts(length int) []uint64 {
	ends := uint64(1) | uint64(1)<<(length-1)
	all := uint64(1)<<length - 1
	l := []uint64{ends, all, ends | 0xEDB88320&all, ends | 0x04C11DB7&all, ends | 0xAAAAAAAA&all, ends | 0x55555555&all}
	for seed := range uint64(10) {
		l = append(l, ends|(seed+1)*0x9E3779B97F4A7C15>>20&all)
	}
	return l
}

// P42
func TestShortBurstsAreSeen(t *testing.T) {
	for _, s := range []string{"a", "\x00\x00", "\xff\xff\xff", mixed(7, 1)} {
		for first := range len(s) * 8 {
			for pattern := uint64(1); pattern < 1<<10; pattern += 2 {
				if pattern>>(len(s)*8-first) == 0 {
					seen(t, s, first, pattern)
				}
			}
		}
	}
}

// P42
func TestLongBurstsAreSeen(t *testing.T) {
	for _, s := range []string{mixed(4, 1), mixed(5, 2), mixed(9, 3), "\x00\x00\x00\x00\x00\x00", "abcdefgh"} {
		for length := 1; length <= 32; length++ {
			for first := range len(s)*8 - length + 1 {
				for _, pattern := range bursts(length) {
					seen(t, s, first, pattern)
				}
			}
		}
	}
}

// P42: at the first and the last places of the longest object.
func TestBurstsAtTheEndsAreSeen(t *testing.T) {
	s := mixed(api.MaxText, 4)
	for length := 1; length <= 32; length++ {
		for _, pattern := range bursts(length) {
			seen(t, s, 0, pattern)
			seen(t, s, len(s)*8-length, pattern)
		}
	}
}

// P42: one bit of each place of a text, its first and its last one too.
func TestOneBitIsSeen(t *testing.T) {
	for _, s := range []string{"a", "ab", mixed(64, 5), mixed(300, 6)} {
		for first := range len(s) * 8 {
			seen(t, s, first, 1)
		}
	}
}

// P42: what a turned bit changes in the sum does not hang on the other bits. So all patterns of 32 bits in a row are seen if no change is the xor of others.
func TestAllBurstsOf32BitsAreSeen(t *testing.T) {
	for _, s := range []string{mixed(4, 1), mixed(12, 2), mixed(200, 3)} {
		sum := sums.CRC(s)
		for first := range min(len(s)*8-31, 80) {
			var changes []uint32
			for bit := range 32 {
				changes = append(changes, sum^sums.CRC(turned(s, first+bit, 1)))
			}
			for _, pattern := range bursts(32) {
				want := sum
				for bit, change := range changes {
					if pattern>>bit&1 == 1 {
						want ^= change
					}
				}
				if got := sums.CRC(turned(s, first, pattern)); got != want {
					t.Errorf("%d bytes, bits %b from %d on: %#x, want %#x", len(s), pattern, first, got, want)
				}
			}
			if got := rank(changes); got != 32 {
				t.Errorf("%d bytes: changes of 32 bits from %d on have rank %d", len(s), first, got)
			}
		}
	}
}

// rank tells how many rows of bits are left when none is the xor of others.
func rank(rows []uint32) int {
	var led [32]uint32
	count := 0
	for _, row := range rows {
		for bit := range 32 {
			if row>>bit&1 == 0 {
				continue
			}
			if led[bit] == 0 {
				led[bit] = row
				count++
				break
			}
			row ^= led[bit]
		}
	}
	return count
}

// P40: the one burst of 33 bits that is not seen is the polynomial. By another polynomial, or with bits the other way round, it would be.
func TestThePolynomialItselfIsNotSeen(t *testing.T) {
	s := mixed(9, 7)
	for first := range len(s)*8 - 32 {
		other := turned(s, first, 1|0xEDB88320<<1)
		if got, want := sums.CRC(other), sums.CRC(s); other == s || got != want {
			t.Errorf("from %d on: %#x, want %#x", first, got, want)
		}
		seen(t, s, first, 1<<32|1)
		seen(t, s, first, 0x104C11DB7)
	}
}
