package side

import (
	"sync"

	"floodgate/fault"
)

// made is what a worker made of a number.
type made[Answer any] struct {
	number int
	answer Answer
	err    error
}

// ofEach number below n the answer, made by so many workers side by side. Of errors, the first number's is told, at that number: so all of them are made, whichever error is known first.
func ofEach[Answer any](n, workers int, answer func(number int) (Answer, error)) ([]Answer, error) {
	numbers, results := make(chan int), make(chan made[Answer])
	var all sync.WaitGroup
	for range min(workers, n) {
		all.Add(1)
		go func() {
			defer all.Done()
			for number := range numbers {
				x, err := answer(number)
				results <- made[Answer]{number: number, answer: x, err: err}
			}
		}()
	}
	byNumber := handOut(n, numbers, results)
	all.Wait()
	return answers(byNumber)
}

// handOut numbers to workers, and take in what they made, until all is there. One select does both, since a worker that has an answer can't take a number, and one that asks for a number has no answer.
func handOut[Answer any](n int, numbers chan<- int, results <-chan made[Answer]) []made[Answer] {
	out := make([]made[Answer], n)
	open := numbers
	for next, taken := 0, 0; taken < n; {
		if next == n {
			open = nil // nothing is sent through it any more
		}
		select {
		case open <- next:
			next++
		case x := <-results:
			out[x.number] = x
			taken++
		}
	}
	close(numbers)
	return out
}

func answers[Answer any](l []made[Answer]) ([]Answer, error) {
	out := make([]Answer, len(l))
	for i, x := range l {
		if x.err != nil {
			return nil, fault.At(i, x.err)
		}
		out[i] = x.answer
	}
	return out, nil
}
