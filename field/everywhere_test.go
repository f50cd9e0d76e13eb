package field_test

import (
	"bytes"
	"errors"
	"math"
	"sync"
	"testing"

	"shardkeep/api"
	"shardkeep/field"
	"shardkeep/plain"
)

// P1: great lists and numbers from all over; that the test ends is what it asks.
func TestEveryCallEnds(t *testing.T) {
	long := bytesOf(1<<20, 8)
	lists := [][]byte{nil, {}, {0}, {0, 0}, {1, 0}, pointsOf(256), pointsOf(255), long, long[:257]}
	for _, x := range []byte{0, 1, 2, 128, 255} {
		for _, xs := range lists {
			field.Eval(xs, x)
			for _, ys := range lists {
				field.Between(xs, ys, x)
			}
		}
		for _, n := range []int{math.MinInt, math.MinInt + 1, -256, -255, -1, 0, 1, 255, 256, math.MaxInt - 1, math.MaxInt} {
			field.Pow(x, n)
		}
		field.Inv(x)
		field.Div(x, 0)
		field.Div(0, x)
	}
}

// told is all that the package answers of these points.
func told(xs, ys []byte) []byte {
	var out []byte
	for x := range 256 {
		y, err := field.Between(xs, ys, byte(x))
		code, _ := plain.Code(err)
		up, _ := field.Pow(byte(x), 1000)
		down, _ := field.Pow(byte(x), -1000)
		inv, _ := field.Inv(byte(x))
		quotient, _ := field.Div(77, byte(x))
		out = append(out, y, byte(code), up, down, inv, quotient, field.Eval(ys, byte(x)), field.Mul(byte(x), 91))
	}
	return out
}

// P2
func TestAnswersHangOnNothingElse(t *testing.T) {
	xs, ys := pointsOf(30), bytesOf(30, 2)
	want := told(xs, ys)
	var answers [16][]byte
	var wait sync.WaitGroup
	for i := range answers {
		wait.Go(func() {
			told(pointsOf(i), bytesOf(i+i%2, 7))
			answers[i] = told(xs, ys)
		})
	}
	wait.Wait()
	for i, got := range answers {
		if !bytes.Equal(got, want) {
			t.Errorf("worker %d was told otherwise", i)
		}
	}
}

// P3: no place is told in this chapter, so errors are bare, and what is beside them is 0.
func TestErrorsAreBare(t *testing.T) {
	type answer struct {
		name string
		got  byte
		err  error
		want error
	}
	var l []answer
	add := func(name string, want error, got byte, err error) { l = append(l, answer{name, got, err, want}) }
	got, err := field.Inv(0)
	add("Inv(0)", api.ErrZero, got, err)
	got, err = field.Div(7, 0)
	add("Div(7, 0)", api.ErrZero, got, err)
	got, err = field.Div(0, 0)
	add("Div(0, 0)", api.ErrZero, got, err)
	got, err = field.Pow(0, -3)
	add("Pow(0, -3)", api.ErrZero, got, err)
	got, err = field.Between([]byte{1}, []byte{1, 2}, 1)
	add("Between, shape", api.ErrShape, got, err)
	got, err = field.Between([]byte{1, 1}, []byte{1, 2}, 1)
	add("Between, twice", api.ErrExist, got, err)
	for _, a := range l {
		var fault *api.Fault
		if a.got != 0 || a.err != a.want || errors.As(a.err, &fault) {
			t.Errorf("%s = %d, %v, want 0, %v", a.name, a.got, a.err, a.want)
		}
	}
}

// P3: behind the lists' lengths stand a point that is there already, and coefficients.
func TestWhatLiesBehindALengthIsNotThere(t *testing.T) {
	xs, ys, p := []byte{5, 0, 200, 5, 0}, []byte{9, 8, 7, 6, 5}, []byte{7, 1, 3, 99, 98}
	xs2, ys2, p2 := bytes.Clone(xs), bytes.Clone(ys), bytes.Clone(p)
	for x := range 256 {
		want, _ := field.Between([]byte{5, 0, 200}, []byte{9, 8, 7}, byte(x))
		if got, err := field.Between(xs[:3], ys[:3], byte(x)); got != want || err != nil {
			t.Errorf("Between at %d = %d, %v, want %d", x, got, err, want)
		}
		if got, want := field.Eval(p[:3], byte(x)), field.Eval([]byte{7, 1, 3}, byte(x)); got != want {
			t.Errorf("Eval at %d = %d, want %d", x, got, want)
		}
	}
	if got, err := field.Between(xs[:3], ys[:2], 1); got != 0 || err != api.ErrShape {
		t.Errorf("Between of three and two = %d, %v, want ErrShape", got, err)
	}
	if !bytes.Equal(xs, xs2) || !bytes.Equal(ys, ys2) || !bytes.Equal(p, p2) {
		t.Error("a list was written into, or what lies behind it")
	}
}

// P4
func TestListsAreOnlyReadAndNotKept(t *testing.T) {
	xs, ys := pointsOf(12), bytesOf(12, 6)
	xs2, ys2 := bytes.Clone(xs), bytes.Clone(ys)
	first := told(xs, ys)
	field.Between([]byte{3, 1, 3}, []byte{1, 2, 3}, 3)
	if !bytes.Equal(xs, xs2) || !bytes.Equal(ys, ys2) {
		t.Fatal("a list was written into")
	}
	for i := range ys {
		ys[i]++
	}
	if bytes.Equal(told(xs, ys), first) {
		t.Error("a change of a list does not show in a new call")
	}
	if !bytes.Equal(told(xs2, ys2), first) {
		t.Error("a change of a list shows in a call of another one")
	}
}
