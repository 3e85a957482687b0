package curve_test

import (
	"errors"
	"math"
	"slices"
	"testing"

	"floodgate/api"
	"floodgate/curve"
)

type lines = []api.Line

// of makes lines of their Bursts and Rates, by turns.
func of(numbers ...int) lines {
	var out lines
	for i := 0; i < len(numbers); i += 2 {
		out = append(out, api.Line{Burst: numbers[i], Rate: numbers[i+1]})
	}
	return out
}

// wrong curves, with the error and the place that they have (-1: a bare error).
var wrong = []struct {
	l   lines
	err error
	at  int
}{
	{nil, api.ErrShape, -1},
	{lines{}, api.ErrShape, -1},
	{make(lines, api.MaxLines+1), api.ErrShape, -1},
	{make(lines, 1000), api.ErrShape, -1},
	{of(0, 0), api.ErrBound, 0},
	{of(-1, 0), api.ErrBound, 0},
	{of(1, -1), api.ErrBound, 0},
	{of(api.MaxBurst+1, 0), api.ErrBound, 0},
	{of(1, api.MaxRate+1), api.ErrBound, 0},
	{of(math.MinInt, 0), api.ErrBound, 0},
	{of(math.MaxInt, math.MaxInt), api.ErrBound, 0},
	{of(1, math.MinInt), api.ErrBound, 0},
	{of(1, 1, 2, 0, 0, 5, -1, 5), api.ErrBound, 2},
	{of(1, 1, 1, 1, 1, 1, 1, 1, 1, 1, 1, -1), api.ErrBound, 5},
}

// isFault tells whether err is just this error, at this place or bare.
func isFault(err, want error, at int) bool {
	if at < 0 {
		return err == want
	}
	f, ok := err.(*api.Fault)
	return ok && f.At == at && f.Err == want
}

// P10.
func TestCheck(t *testing.T) {
	for _, l := range []lines{
		of(1, 0),
		of(api.MaxBurst, api.MaxRate),
		of(1, api.MaxRate, api.MaxBurst, 0),
		of(3, 3, 3, 3, 3, 3, 3, 3, 3, 3, 3, 3),
	} {
		if err := curve.Check(l); err != nil {
			t.Error(l, err)
		}
	}
	for _, c := range wrong {
		if err := curve.Check(c.l); !isFault(err, c.err, c.at) {
			t.Error(c.l, err)
		}
	}
}

// P10.
func TestAt(t *testing.T) {
	for _, c := range []struct {
		l       lines
		t, want int
	}{
		{of(10, 0, 4, 1000), 0, 4},
		{of(10, 0, 4, 1000), 3, 7},
		{of(10, 0, 4, 1000), 6, 10},
		{of(10, 0, 4, 1000), 9, 10},
		{of(1, 1), 999, 1},
		{of(1, 1), 1000, 2},
		{of(1, 999), 1, 1},
		{of(1, 999), 2, 2},
		{of(5, 333), 3, 5},
		{of(5, 333), 4, 6},
		{of(1, 0), api.MaxTime, 1},
		{of(api.MaxBurst, api.MaxRate), api.MaxTime, api.MaxBurst + 100*api.MaxTime},
		{of(9, 1, 7, 2, 8, 0), api.MaxTime, 8},
	} {
		if n, err := curve.At(c.l, c.t); n != c.want || err != nil {
			t.Error(c, n, err)
		}
	}
}

// P10: wrong ticks, and a wrong curve ahead of them.
func TestAtFaults(t *testing.T) {
	for _, at := range []int{-1, api.MaxTime + 1, math.MinInt, math.MaxInt} {
		if n, err := curve.At(of(1, 1), at); n != 0 || err != api.ErrBound {
			t.Error(at, n, err)
		}
		for _, c := range wrong {
			if n, err := curve.At(c.l, at); n != 0 || !isFault(err, c.err, c.at) {
				t.Error(c.l, at, n, err)
			}
		}
	}
}

// P11.
func TestSum(t *testing.T) {
	for _, c := range []struct{ a, b, want lines }{
		{of(10, 0, 4, 1000), of(3, 500), of(7, 1500, 13, 500)},
		{of(1, 1), of(1, 1), of(2, 2)},
		{of(api.MaxBurst-1, api.MaxRate), of(1, 0), of(api.MaxBurst, api.MaxRate)},
		{of(1, 9, 2, 4, 9, 1), of(1, 8, 3, 5, 7, 3, 20, 0), of(2, 17, 3, 12, 5, 9, 9, 7, 16, 4, 29, 1)},
	} {
		if x, err := curve.Sum(c.a, c.b); !slices.Equal(x, c.want) || err != nil {
			t.Error(c, x, err)
		}
	}
}

// P11: the errors, in their order.
func TestSumFaults(t *testing.T) {
	ok := of(1, 1)
	for _, c := range wrong {
		for _, b := range []lines{ok, nil, of(0, 0), of(api.MaxBurst, api.MaxRate)} {
			if x, err := curve.Sum(c.l, b); len(x) != 0 || !isFault(err, c.err, c.at) {
				t.Error(c.l, b, x, err)
			}
		}
		if x, err := curve.Sum(ok, c.l); len(x) != 0 || !isFault(err, c.err, c.at) {
			t.Error(c.l, x, err)
		}
	}
	many := of(1, 9000, 2, 5000, 5, 2000, 20, 100)
	more := of(1, 8000, 3, 4000, 9, 1500, 30, 50)
	for _, c := range []struct {
		a, b lines
		err  error
	}{
		{of(api.MaxBurst, 1), ok, api.ErrBound},
		{of(1, api.MaxRate), ok, api.ErrBound},
		{ok, of(1, api.MaxRate), api.ErrBound},
		{of(1, 1, api.MaxBurst, 5), ok, api.ErrBound}, // though that line would not be left
		{ok, of(2, 1, 2, api.MaxRate), api.ErrBound},
		{many, more, api.ErrShape},
		{append(slices.Clone(many), api.Line{Burst: api.MaxBurst, Rate: 9}), more, api.ErrBound},
	} {
		if x, err := curve.Sum(c.a, c.b); len(x) != 0 || err != c.err {
			t.Error(c, x, err)
		}
	}
}

// P12.
func TestTidy(t *testing.T) {
	for _, c := range []struct{ l, want lines }{
		{of(10, 0, 4, 1000), of(4, 1000, 10, 0)},
		{of(5, 5, 5, 5), of(5, 5)},
		{of(5, 5, 6, 5, 4, 9, 4, 8), of(4, 8, 5, 5)},
		{of(2, 3000, 4, 2000, 6, 1000), of(2, 3000, 6, 1000)},
		{of(2, 3000, 3, 2000, 6, 1000), of(2, 3000, 3, 2000, 6, 1000)},
		{of(7, 0), of(7, 0)},
		{of(7, 3, 6, 3, 5, 0, 5, 0, 9, 1, 5, 1), of(5, 0)},
		{of(9, 99998, 1, api.MaxRate, 2, 99999), of(1, api.MaxRate, 2, 99999, 9, 99998)},
		{of(40, 10000, 1, 100000, 20, 50000), of(1, 100000, 20, 50000, 40, 10000)}, // one is less between two ticks only
		{of(1, api.MaxRate, api.MaxBurst, 0, 2, 0), of(1, api.MaxRate, 2, 0)},
		{of(1, 50, 2, 40, 4, 30, 7, 20, 11, 10, 16, 0), of(1, 50, 2, 40, 4, 30, 7, 20, 11, 10, 16, 0)},
	} {
		if x, err := curve.Tidy(c.l); !slices.Equal(x, c.want) || err != nil {
			t.Error(c, x, err)
		}
	}
	for _, c := range wrong {
		if x, err := curve.Tidy(c.l); len(x) != 0 || !isFault(err, c.err, c.at) {
			t.Error(c.l, x, err)
		}
	}
}

// P13.
func TestDelayAndBusy(t *testing.T) {
	for _, c := range []struct {
		l           lines
		per         int
		delay, busy int
		none        [2]error
	}{
		{of(5, 100), 2, 10, 12, [2]error{}},
		{of(5, 0), 3, 15, 15, [2]error{}},
		{of(5, 500), 2, 10, 0, [2]error{nil, api.ErrNone}},
		{of(5, 501), 2, 0, 0, [2]error{api.ErrNone, api.ErrNone}},
		{of(1, 2000, 5, 250), 1, 3, 6, [2]error{}},
		{of(1, 100000, 50, 10), 1, 49, 50, [2]error{}},
		{of(1, 333), 3, 3, 3, [2]error{}}, // at 4, 2 bytes came: it is not so again
		{of(1, 0), 1, 1, 1, [2]error{}},
		{of(api.MaxBurst, 0), api.MaxPer, 20000000, 20000000, [2]error{}},
		{of(api.MaxBurst, 1), api.MaxPer, 20000000, 0, [2]error{nil, api.ErrNone}},
		{of(api.MaxBurst, 2), api.MaxPer, 0, 0, [2]error{api.ErrNone, api.ErrNone}},
		{of(api.MaxBurst, 999), 1, api.MaxBurst, 19999001, [2]error{}},
		{of(1, 1001, api.MaxBurst, 1000), 1, api.MaxBurst, 0, [2]error{nil, api.ErrNone}},
		{of(1, 3, 2, 1), api.MaxPer, 2000, 0, [2]error{nil, api.ErrNone}}, // the third byte comes at 1000
		{of(1, api.MaxRate, 2, api.MaxRate), api.MaxPer, 0, 0, [2]error{api.ErrNone, api.ErrNone}},
	} {
		if d, err := curve.Delay(c.l, c.per); d != c.delay || err != c.none[0] {
			t.Error(c, d, err)
		}
		if b, err := curve.Busy(c.l, c.per); b != c.busy || err != c.none[1] {
			t.Error(c, b, err)
		}
	}
}

// P13: wrong links, and a wrong curve ahead of them.
func TestDelayAndBusyFaults(t *testing.T) {
	for name, call := range map[string]func([]api.Line, int) (int, error){"delay": curve.Delay, "busy": curve.Busy} {
		for _, per := range []int{0, -1, api.MaxPer + 1, math.MinInt, math.MaxInt} {
			for _, l := range []lines{of(1, 1), of(1, api.MaxRate)} {
				if n, err := call(l, per); n != 0 || err != api.ErrBound {
					t.Error(name, l, per, n, err)
				}
			}
			for _, c := range wrong {
				if n, err := call(c.l, per); n != 0 || !isFault(err, c.err, c.at) {
					t.Error(name, c.l, per, n, err)
				}
			}
		}
	}
}

// P4: what is handed over is only read, what is answered is new.
func TestMemory(t *testing.T) {
	whole := of(10, 0, 4, 1000, 7, 7, 1, 1)
	l, before := whole[:2], slices.Clone(whole)
	for range 2 {
		x, e1 := curve.Tidy(l)
		y, e2 := curve.Sum(l, l)
		_, e3 := curve.Delay(l, 3)
		_, e4 := curve.Busy(l, 3)
		if err := errors.Join(e1, e2, e3, e4); err != nil {
			t.Fatal(err)
		}
		if !slices.Equal(x, of(4, 1000, 10, 0)) || !slices.Equal(y, of(8, 2000, 20, 0)) {
			t.Error(x, y)
		}
		clear(x[:cap(x)])
		clear(y[:cap(y)])
		if !slices.Equal(whole, before) {
			t.Fatal(whole)
		}
	}
}
