package side

import (
	"errors"
	"strconv"
	"sync"
	"testing"
	"testing/synctest"
	"time"

	"floodgate/api"
)

// In a bubble of synctest, time goes on only when all wait, and a worker that never ends is told: so what takes how long, and who is first, is the same each time.

// isAt tells whether err is just this error, at this place.
func isAt(err, want error, at int) bool {
	f, ok := err.(*api.Fault)
	return ok && f.At == at && f.Err == want
}

// P100: as many as there may be work at one time, no more; each number is asked for once.
func TestSideBySide(t *testing.T) {
	for workers := 1; workers <= api.Workers; workers++ {
		for _, n := range []int{0, 1, 2, workers - 1, workers, workers + 1, 3 * workers, most} {
			synctest.Test(t, func(t *testing.T) {
				begin := time.Now()
				asked := make([]int, n)
				got, err := ofEach(n, workers, func(number int) (string, error) {
					asked[number]++
					time.Sleep(time.Second)
					return strconv.Itoa(number), nil
				})
				rounds := (n + workers - 1) / workers
				if len(got) != n || err != nil || time.Since(begin) != time.Duration(rounds)*time.Second {
					t.Error(workers, n, got, err, time.Since(begin))
				}
				for number, x := range got {
					if x != strconv.Itoa(number) || asked[number] != 1 {
						t.Error(workers, n, number, x, asked[number])
					}
				}
			})
		}
	}
}

// P100: workers that must meet do so.
func TestMeet(t *testing.T) {
	for workers := 1; workers <= api.Workers; workers++ {
		synctest.Test(t, func(t *testing.T) {
			var meet sync.WaitGroup
			meet.Add(workers)
			got, err := ofEach(workers, workers, func(number int) ([2]int, error) {
				meet.Done()
				meet.Wait()
				return [2]int{number, workers}, nil
			})
			for number, x := range got {
				if x != [2]int{number, workers} {
					t.Error(workers, number, x)
				}
			}
			if len(got) != workers || err != nil {
				t.Error(workers, got, err)
			}
		})
	}
}

// P101: whoever is ready first, answers stand by their numbers.
func TestLastIsFirst(t *testing.T) {
	for workers := 1; workers <= api.Workers; workers++ {
		synctest.Test(t, func(t *testing.T) {
			got, err := ofEach(most, workers, func(number int) (int, error) {
				time.Sleep(time.Duration(most-number) * time.Second)
				return number * number, nil
			})
			for number, x := range got {
				if x != number*number {
					t.Error(workers, number, x)
				}
			}
			if len(got) != most || err != nil {
				t.Error(workers, got, err)
			}
		})
	}
}

// P100, P101: the first number's error is told, whoever comes to one first; its own place is left aside.
func TestFirstError(t *testing.T) {
	for workers := 1; workers <= api.Workers; workers++ {
		for _, slowly := range []bool{true, false} {
			for _, at := range []int{0, 1, 5, 41, most - 1} {
				synctest.Test(t, func(t *testing.T) {
					got, err := ofEach(most, workers, func(number int) (int, error) {
						if (number == at) == slowly {
							time.Sleep(time.Second)
						}
						switch {
						case number < at:
							return number, nil
						case number == at:
							return number, &api.Fault{At: 77, Err: api.ErrOld}
						}
						return number, api.ErrBound
					})
					if got != nil || !isAt(err, api.ErrOld, at) || !errors.Is(err, api.ErrOld) {
						t.Error(workers, slowly, at, got, err)
					}
				})
			}
		}
	}
}

// P100: when there is an answer, nobody works on: also where there is an error.
func TestJoined(t *testing.T) {
	for workers := 1; workers <= api.Workers; workers++ {
		for _, wrong := range []error{nil, api.ErrNone} {
			synctest.Test(t, func(t *testing.T) {
				ended := 0
				var lock sync.Mutex
				ofEach(most, workers, func(number int) (int, error) {
					time.Sleep(time.Duration(number%7) * time.Second)
					lock.Lock()
					defer lock.Unlock()
					ended++
					return 0, wrong
				})
				before := ended
				time.Sleep(time.Hour)
				if before != most || ended != most {
					t.Error(workers, wrong, before, ended)
				}
			})
		}
	}
}
