package side

import (
	"sync"

	"shardkeep/api"
)

// made is what a worker made of a number.
type made[T any] struct {
	number int
	answer T
	err    error
}

// each answers what do makes of all numbers below count, in their order; or, with its place, the error of the first that has one.
func each[T any](count, workers int, do func(number int) (T, error)) ([]T, error) {
	numbers, out := make(chan int), make(chan made[T])
	var wait sync.WaitGroup
	for range workers {
		wait.Go(func() { work(numbers, out, do) })
	}
	l := gather(count, numbers, out)
	close(numbers)
	wait.Wait()
	answers := make([]T, count)
	for at, m := range l {
		if m.err != nil {
			return nil, &api.Fault{At: at, Err: m.err}
		}
		answers[at] = m.answer
	}
	return answers, nil
}

func work[T any](numbers <-chan int, out chan<- made[T], do func(number int) (T, error)) {
	for number := range numbers {
		answer, err := do(number)
		out <- made[T]{number, answer, err}
	}
}

// gather hands out all numbers below count and takes what is made of them: both in one select, so that no worker waits for ever with what it made. By its number each has its place, whichever comes first.
func gather[T any](count int, numbers chan<- int, out <-chan made[T]) []made[T] {
	l := make([]made[T], count)
	for next, left := 0, count; left > 0; {
		if next == count {
			numbers = nil // it is never ready: nothing is left to be handed out
		}
		select {
		case numbers <- next:
			next++
		case m := <-out:
			l[m.number] = m
			left--
		}
	}
	return l
}
