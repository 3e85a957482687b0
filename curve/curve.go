// Package curve: curves: see ../shared/doc/01-curve.md.
package curve

import "floodgate/api"

// thousand ticks are what a Rate is counted in.
const thousand = 1000

// Check a curve.
func Check(l []api.Line) error {
	if len(l) < 1 || len(l) > api.MaxLines {
		return api.ErrShape
	}
	for i, x := range l {
		if !isLine(x) {
			return &api.Fault{At: i, Err: api.ErrBound}
		}
	}
	return nil
}

// At a tick.
func At(l []api.Line, t int) (int, error) {
	if err := Check(l); err != nil {
		return 0, err
	}
	if t < 0 || t > api.MaxTime {
		return 0, api.ErrBound
	}
	return bytesAt(l, t), nil
}

// Tidy lines.
func Tidy(l []api.Line) ([]api.Line, error) {
	if err := Check(l); err != nil {
		return nil, err
	}
	return lowest(l), nil
}

// Sum of two curves.
func Sum(a, b []api.Line) ([]api.Line, error) {
	if err := Check(a); err != nil {
		return nil, err
	}
	if err := Check(b); err != nil {
		return nil, err
	}
	pairs := each(a, b)
	for _, x := range pairs {
		if !isLine(x) {
			return nil, api.ErrBound
		}
	}
	left := lowest(pairs)
	if len(left) > api.MaxLines {
		return nil, api.ErrShape
	}
	return left, nil
}

// Delay at a link.
func Delay(l []api.Line, per int) (int, error) {
	if err := checkLink(l, per); err != nil {
		return 0, err
	}
	if leastRate(l)*per > thousand {
		return 0, api.ErrNone
	}
	return longest(l, per), nil
}

// Busy ticks of a link.
func Busy(l []api.Line, per int) (int, error) {
	if err := checkLink(l, per); err != nil {
		return 0, err
	}
	// A link that has caught up at t has sent At(t) bytes, and had caught up as soon as they were through: so the least t is that of whole bytes. Of whole bytes (not of ticks) it is so ever after, once it is: without the rounding, a curve bends down only.
	most := api.MaxTime / per
	n := first(1, most+1, func(n int) bool { return bytesAt(l, per*n) <= n })
	if n > most {
		return 0, api.ErrNone
	}
	return per * n, nil
}

func checkLink(l []api.Line, per int) error {
	if err := Check(l); err != nil {
		return err
	}
	if per < 1 || per > api.MaxPer {
		return api.ErrBound
	}
	return nil
}

func isLine(x api.Line) bool {
	return x.Burst >= 1 && x.Burst <= api.MaxBurst && x.Rate >= 0 && x.Rate <= api.MaxRate
}

func bytesAt(l []api.Line, t int) int {
	least := l[0].Burst + l[0].Rate*t/thousand
	for _, x := range l[1:] {
		least = min(least, x.Burst+x.Rate*t/thousand)
	}
	return least
}

func leastRate(l []api.Line) int {
	least := l[0].Rate
	for _, x := range l[1:] {
		least = min(least, x.Rate)
	}
	return least
}

// first number from low on, below high, of which it holds, or else high. What holds of a number must hold of all behind it.
func first(low, high int, holds func(int) bool) int {
	for low < high {
		middle := low + (high-low)/2
		if holds(middle) {
			high = middle
		} else {
			low = middle + 1
		}
	}
	return low
}
