// Package everywhere tests what is given and no stage may change.
package everywhere

import (
	"crypto/sha256"
	"encoding/hex"
	"errors"
	"os"
	"testing"

	"shardkeep/api"
	"shardkeep/plain"
)

// P5
func TestBounds(t *testing.T) {
	for _, c := range []struct {
		name      string
		got, want int
	}{
		{"MaxText", api.MaxText, 1000},
		{"MaxShards", api.MaxShards, 12},
		{"MaxSide", api.MaxSide, 16},
		{"MaxName", api.MaxName, 16},
		{"MaxNodes", api.MaxNodes, 16},
		{"Points", api.Points, 8},
		{"MaxHeld", api.MaxHeld, 60},
		{"MaxClients", api.MaxClients, 6},
		{"MaxConfigs", api.MaxConfigs, 12},
		{"MaxMoves", api.MaxMoves, 200},
		{"MaxFlying", api.MaxFlying, 120},
		{"MaxSteps", api.MaxSteps, 3000},
		{"MaxWire", api.MaxWire, 4000},
		{"MaxLines", api.MaxLines, 100},
		{"Workers", api.Workers, 16},
	} {
		if c.got != c.want {
			t.Errorf("%s = %d, want %d", c.name, c.got, c.want)
		}
	}
}

// P5
func TestErrorsHaveTheirTextsAndNumbers(t *testing.T) {
	for i, c := range []struct {
		err  error
		text string
	}{
		{api.ErrText, "shardkeep: text"},
		{api.ErrBound, "shardkeep: bound"},
		{api.ErrShape, "shardkeep: shape"},
		{api.ErrName, "shardkeep: name"},
		{api.ErrNone, "shardkeep: none"},
		{api.ErrExist, "shardkeep: exist"},
		{api.ErrFull, "shardkeep: full"},
		{api.ErrFew, "shardkeep: few"},
		{api.ErrSum, "shardkeep: sum"},
		{api.ErrOld, "shardkeep: old"},
		{api.ErrHeld, "shardkeep: held"},
		{api.ErrZero, "shardkeep: zero"},
	} {
		if c.err.Error() != c.text {
			t.Errorf("error %d says %q, want %q", i+1, c.err.Error(), c.text)
		}
		if code, at := plain.Code(c.err); code != i+1 || at != -1 {
			t.Errorf("%s bare: %d at %d, want %d at -1", c.text, code, at, i+1)
		}
		fault := &api.Fault{At: 7, Err: c.err}
		if code, at := plain.Code(fault); code != i+1 || at != 7 || fault.Error() != c.text {
			t.Errorf("%s with its place: %d at %d, want %d at 7", c.text, code, at, i+1)
		}
	}
}

// P5
func TestOtherErrorsHaveNoNumber(t *testing.T) {
	if code, at := plain.Code(nil); code != 0 || at != -1 {
		t.Errorf("nil: %d at %d, want 0 at -1", code, at)
	}
	if code, at := plain.Code(errors.New("shardkeep: zero")); code != -1 || at != -1 {
		t.Errorf("another error of the same text: %d at %d, want -1 at -1", code, at)
	}
}

func TestGivenPackagesStayToTheByte(t *testing.T) {
	for _, c := range [][2]string{
		{"../api/api.go", "69f0a4667cf9c77dc38d07db19836305f8cf04b5293fd32d4dbd4489369b3429"},
		{"../plain/plain.go", "9c4a7ae8d99876feb4c468c7bb71cb7fc0b4689b1808028bd8ca50107237c0b7"},
	} {
		text, err := os.ReadFile(c[0])
		if err != nil {
			t.Fatal(err)
		}
		sum := sha256.Sum256(text)
		if got := hex.EncodeToString(sum[:]); got != c[1] {
			t.Errorf("%s has the sum %s, want %s", c[0], got, c[1])
		}
	}
}
