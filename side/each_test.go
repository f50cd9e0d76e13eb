package side

import (
	"errors"
	"strconv"
	"sync/atomic"
	"testing"
	"testing/synctest"
	"time"

	"shardkeep/api"
)

// P150: as many as there are workers work at one time, and no more. In a bubble nobody waits for real, and a worker who is left waiting is told.
func TestAsManyWorkAtOneTime(t *testing.T) {
	for workers := 1; workers <= api.Workers; workers++ {
		for _, count := range []int{0, 1, workers - 1, workers, workers + 1, 5*workers + 1, most} {
			synctest.Test(t, func(t *testing.T) {
				var now, greatest, calls atomic.Int64
				_, err := each(count, workers, func(int) (int, error) {
					calls.Add(1)
					if n := now.Add(1); n > greatest.Load() {
						greatest.Store(n)
					}
					time.Sleep(time.Second)
					now.Add(-1)
					return 0, nil
				})
				if err != nil || greatest.Load() != int64(min(workers, count)) || calls.Load() != int64(count) {
					t.Errorf("%d of %d at one time, %d calls for %d, %v", greatest.Load(), workers, calls.Load(), count, err)
				}
			})
		}
	}
}

// P150: none waits for one that takes long, as long as there are others who work.
func TestManyWorkAtOneTime(t *testing.T) {
	for workers := 1; workers <= api.Workers; workers++ {
		synctest.Test(t, func(t *testing.T) {
			began := time.Now()
			_, err := each(most, workers, func(int) (int, error) {
				time.Sleep(time.Second)
				return 0, nil
			})
			turns := time.Duration((most + workers - 1) / workers)
			if took := time.Since(began); err != nil || took != turns*time.Second {
				t.Errorf("%d workers took %v for %d, %v", workers, took, most, err)
			}
		})
	}
}

// P152: whoever is done first, the answers stand in order.
func TestAnswersStandInOrder(t *testing.T) {
	waits := map[string]func(at int) int{
		"all alike":         func(int) int { return 1 },
		"the last first":    func(at int) int { return most - at },
		"the first first":   func(at int) int { return at },
		"the even ones":     func(at int) int { return 1 + at%2*50 },
		"mixed":             func(at int) int { return at * at * 37 % 101 },
		"some take longest": func(at int) int { return 1 + at%13/12*1000 },
	}
	for name, wait := range waits {
		for workers := 1; workers <= api.Workers; workers++ {
			synctest.Test(t, func(t *testing.T) {
				l, err := each(most, workers, func(at int) (string, error) {
					time.Sleep(time.Duration(wait(at)))
					return strconv.Itoa(at), nil
				})
				if err != nil || len(l) != most {
					t.Fatalf("%s, %d workers: %d answers, %v", name, workers, len(l), err)
				}
				for at, s := range l {
					if s != strconv.Itoa(at) {
						t.Errorf("%s, %d workers: %q at %d", name, workers, s, at)
					}
				}
			})
		}
	}
}

// P150, P152: the first error, though others are told ahead of it; and nothing is left working behind the call.
func TestTheFirstErrorThoughOthersAreAhead(t *testing.T) {
	errs := []error{api.ErrShape, api.ErrFew, api.ErrBound}
	for workers := 1; workers <= api.Workers; workers++ {
		for first := 0; first < most; first += 9 {
			synctest.Test(t, func(t *testing.T) {
				var working atomic.Int64
				l, err := each(most, workers, func(at int) (int, error) {
					working.Add(1)
					defer working.Add(-1)
					time.Sleep(time.Duration(most - at))
					if at >= first {
						return at, errs[at%3]
					}
					return at, nil
				})
				var fault *api.Fault
				if len(l) != 0 || !errors.As(err, &fault) || fault.At != first || fault.Err != errs[first%3] {
					t.Errorf("%d workers: %d answers, %#v, want %v at %d", workers, len(l), err, errs[first%3], first)
				}
				if working.Load() != 0 {
					t.Errorf("%d workers: %d still work", workers, working.Load())
				}
			})
		}
	}
}

// P150: each number once, whatever comes of it.
func TestEachNumberOnce(t *testing.T) {
	for workers := 1; workers <= api.Workers; workers++ {
		for _, err := range []error{nil, api.ErrFew} {
			var calls [most]atomic.Int64
			_, _ = each(most, workers, func(at int) (int, error) {
				calls[at].Add(1)
				return at, err
			})
			for at := range calls {
				if n := calls[at].Load(); n != 1 {
					t.Errorf("%d workers: %d calls of %d", workers, n, at)
				}
			}
		}
	}
}
