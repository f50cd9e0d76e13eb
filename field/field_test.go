package field_test

import (
	"math"
	"testing"

	"shardkeep/api"
	"shardkeep/field"
)

// slowMul multiplies without carries and then divides by the modulus: another way than the package's own.
func slowMul(a, b byte) byte {
	product := 0
	for i := range 8 {
		if b&(1<<i) != 0 {
			product ^= int(a) << i
		}
	}
	for i := 14; i >= 8; i-- {
		if product&(1<<i) != 0 {
			product ^= 0b1_0001_1101 << (i - 8)
		}
	}
	return byte(product)
}

func slowPow(a byte, n int) byte {
	result := byte(1)
	for range n {
		result = slowMul(result, a)
	}
	return result
}

// P10
func TestAddTakesBitsApart(t *testing.T) {
	for _, c := range [][3]byte{{0, 0, 0}, {5, 3, 6}, {255, 255, 0}, {255, 0, 255}, {200, 100, 172}} {
		if got := field.Add(c[0], c[1]); got != c[2] {
			t.Errorf("Add(%d, %d) = %d, want %d", c[0], c[1], got, c[2])
		}
	}
	for a := range 256 {
		for b := range 256 {
			sum := field.Add(byte(a), byte(b))
			if int(sum) != a^b || field.Add(sum, byte(b)) != byte(a) {
				t.Fatalf("Add(%d, %d) = %d: adding %d again does not take it away", a, b, sum, b)
			}
		}
	}
}

// P10
func TestMulOfAllPairs(t *testing.T) {
	if got := field.Mul(2, 128); got != 29 {
		t.Errorf("Mul(2, 128) = %d, want 29", got)
	}
	for a := range 256 {
		for b := range 256 {
			if got, want := field.Mul(byte(a), byte(b)), slowMul(byte(a), byte(b)); got != want {
				t.Fatalf("Mul(%d, %d) = %d, want %d", a, b, got, want)
			}
		}
	}
}

// P10
func TestPowUpward(t *testing.T) {
	if got, err := field.Pow(2, 8); got != 29 || err != nil {
		t.Errorf("Pow(2, 8) = %d, %v, want 29", got, err)
	}
	for a := range 256 {
		want := byte(1)
		for n := range 600 {
			if got, err := field.Pow(byte(a), n); got != want || err != nil {
				t.Fatalf("Pow(%d, %d) = %d, %v, want %d", a, n, got, err, want)
			}
			want = slowMul(want, byte(a))
		}
	}
}

// P10
func TestPowDownwardIsOfInv(t *testing.T) {
	if got, err := field.Pow(2, -1); got != 142 || err != nil {
		t.Errorf("Pow(2, -1) = %d, %v, want 142", got, err)
	}
	for a := 1; a < 256; a++ {
		inv, err := field.Inv(byte(a))
		if err != nil {
			t.Fatalf("Inv(%d): %v", a, err)
		}
		want := byte(1)
		for n := range 600 {
			if got, err := field.Pow(byte(a), -n); got != want || err != nil {
				t.Fatalf("Pow(%d, %d) = %d, %v, want %d", a, -n, got, err, want)
			}
			want = slowMul(want, inv)
		}
	}
}

// P10: 2^63 is 128 more than a multiple of 255, on machines of 32 bits so is 2^31.
func TestPowOfGreatestAndLeast(t *testing.T) {
	for a := 1; a < 256; a++ {
		want := slowPow(byte(a), 127)
		if got, err := field.Pow(byte(a), math.MaxInt); got != want || err != nil {
			t.Errorf("Pow(%d, MaxInt) = %d, %v, want %d", a, got, err, want)
		}
		if got, err := field.Pow(byte(a), math.MinInt); got != want || err != nil {
			t.Errorf("Pow(%d, MinInt) = %d, %v, want %d", a, got, err, want)
		}
	}
}

// P10
func TestPowOfZero(t *testing.T) {
	if got, err := field.Pow(0, 0); got != 1 || err != nil {
		t.Errorf("Pow(0, 0) = %d, %v, want 1", got, err)
	}
	for _, n := range []int{1, 2, 254, 255, 256, 510, math.MaxInt} {
		if got, err := field.Pow(0, n); got != 0 || err != nil {
			t.Errorf("Pow(0, %d) = %d, %v, want 0", n, got, err)
		}
	}
	for _, n := range []int{-1, -2, -254, -255, -256, -510, math.MinInt} {
		if got, err := field.Pow(0, n); got != 0 || err != api.ErrZero {
			t.Errorf("Pow(0, %d) = %d, %v, want ErrZero", n, got, err)
		}
	}
}

// P10
func TestInv(t *testing.T) {
	for a := 1; a < 256; a++ {
		if got, err := field.Inv(byte(a)); slowMul(got, byte(a)) != 1 || err != nil {
			t.Errorf("Inv(%d) = %d, %v", a, got, err)
		}
	}
	if got, err := field.Inv(0); got != 0 || err != api.ErrZero {
		t.Errorf("Inv(0) = %d, %v, want ErrZero", got, err)
	}
}

// P10
func TestDiv(t *testing.T) {
	if got, err := field.Div(29, 2); got != 128 || err != nil {
		t.Errorf("Div(29, 2) = %d, %v, want 128", got, err)
	}
	for a := range 256 {
		for b := 1; b < 256; b++ {
			if got, err := field.Div(byte(a), byte(b)); slowMul(got, byte(b)) != byte(a) || err != nil {
				t.Fatalf("Div(%d, %d) = %d, %v", a, b, got, err)
			}
		}
		if got, err := field.Div(byte(a), 0); got != 0 || err != api.ErrZero {
			t.Errorf("Div(%d, 0) = %d, %v, want ErrZero", a, got, err)
		}
	}
}
