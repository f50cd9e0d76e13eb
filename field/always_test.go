package field_test

import (
	"testing"

	"shardkeep/field"
)

func tableOf(f func(a, b byte) byte) *[256][256]byte {
	var table [256][256]byte
	for a := range 256 {
		for b := range 256 {
			table[a][b] = f(byte(a), byte(b))
		}
	}
	return &table
}

// P12
func TestLawsOfTwo(t *testing.T) {
	sum, product := tableOf(field.Add), tableOf(field.Mul)
	for a := range 256 {
		if sum[a][0] != byte(a) || sum[a][a] != 0 {
			t.Errorf("%d: 0 is not nothing, or it is not its own opposite", a)
		}
		if product[a][1] != byte(a) || product[a][0] != 0 {
			t.Errorf("%d: times 1 is %d, times 0 is %d", a, product[a][1], product[a][0])
		}
		for b := range 256 {
			if sum[a][b] != sum[b][a] || product[a][b] != product[b][a] {
				t.Errorf("%d and %d: the order shows", a, b)
			}
			if a != 0 && b != 0 && product[a][b] == 0 {
				t.Errorf("%d times %d is 0", a, b)
			}
		}
	}
}

// P12
func TestLawsOfThree(t *testing.T) {
	sum, product := tableOf(field.Add), tableOf(field.Mul)
	for a := range 256 {
		for b := range 256 {
			for c := range 256 {
				if sum[sum[a][b]][c] != sum[a][sum[b][c]] {
					t.Fatalf("%d, %d, %d: sums are not associative", a, b, c)
				}
				if product[product[a][b]][c] != product[a][product[b][c]] {
					t.Fatalf("%d, %d, %d: products are not associative", a, b, c)
				}
				if product[a][sum[b][c]] != sum[product[a][b]][product[a][c]] {
					t.Fatalf("%d, %d, %d: not distributive", a, b, c)
				}
			}
		}
	}
}

// P12
func TestEveryElementButZeroHasAnInverse(t *testing.T) {
	for a := 1; a < 256; a++ {
		inv, err := field.Inv(byte(a))
		if err != nil || field.Mul(byte(a), inv) != 1 {
			t.Errorf("Inv(%d) = %d, %v", a, inv, err)
		}
		if back, err := field.Inv(inv); err != nil || back != byte(a) {
			t.Errorf("Inv(Inv(%d)) = %d, %v", a, back, err)
		}
	}
}

// P12
func TestTwoHasAllButZeroAsPowers(t *testing.T) {
	var seen [256]int
	for n := range 255 {
		a, err := field.Pow(2, n)
		if err != nil {
			t.Fatalf("Pow(2, %d): %v", n, err)
		}
		seen[a]++
	}
	if seen[0] != 0 {
		t.Error("0 is a power of 2")
	}
	for a := 1; a < 256; a++ {
		if seen[a] != 1 {
			t.Errorf("%d is a power of 2 %d times in a round, want once", a, seen[a])
		}
	}
}
