package curve_test

import (
	"math/big"
	"slices"
	"testing"

	"floodgate/api"
	"floodgate/curve"
)

// source of numbers that look like none in order, the same ones in each run.
type source uint32

func (s *source) below(n int) int {
	*s = *s*1664525 + 1013904223
	return int(*s>>8) % n
}

func (s *source) curve(most, bursts, rates int) lines {
	l := make(lines, 1+s.below(most))
	for i := range l {
		l[i] = api.Line{Burst: 1 + s.below(bursts), Rate: s.below(rates + 1)}
	}
	return l
}

// bytes by the document's words.
func bytes(l lines, t int) int {
	var all []int
	for _, x := range l {
		all = append(all, x.Burst+x.Rate*t/1000)
	}
	return slices.Min(all)
}

// height of a line at a time between ticks.
func height(x api.Line, t *big.Rat) *big.Rat {
	h := new(big.Rat).Mul(big.NewRat(int64(x.Rate), 1000), t)
	return h.Add(h, big.NewRat(int64(x.Burst), 1))
}

// times at which some line is the least one, for each that ever is: 0, behind all meetings, and between any two that are neighbours.
func times(l lines) []*big.Rat {
	meet := []*big.Rat{new(big.Rat)}
	for _, x := range l {
		for _, y := range l {
			if x.Rate > y.Rate && y.Burst > x.Burst {
				meet = append(meet, big.NewRat(int64(1000*(y.Burst-x.Burst)), int64(x.Rate-y.Rate)))
			}
		}
	}
	slices.SortFunc(meet, (*big.Rat).Cmp)
	out := []*big.Rat{new(big.Rat), new(big.Rat).Add(meet[len(meet)-1], big.NewRat(1, 1))}
	for i := range meet[1:] {
		middle := new(big.Rat).Add(meet[i], meet[i+1])
		out = append(out, middle.Mul(middle, big.NewRat(1, 2)))
	}
	return out
}

func isLeast(x api.Line, l lines, t *big.Rat) bool {
	for _, y := range l {
		if x != y && height(x, t).Cmp(height(y, t)) >= 0 {
			return false
		}
	}
	return true
}

// tidied by the document's words.
func tidied(l lines) lines {
	var out lines
	for _, x := range l {
		for _, t := range times(l) {
			if isLeast(x, l, t) && !slices.Contains(out, x) {
				out = append(out, x)
			}
		}
	}
	slices.SortFunc(out, func(x, y api.Line) int { return y.Rate - x.Rate })
	return out
}

// P12, and P14: a tidy curve tells the same.
func TestTidyAlways(t *testing.T) {
	var s source
	for i := range 3000 {
		l := s.curve(api.MaxLines, []int{5, 12, api.MaxBurst}[i%3], []int{6, 3000, api.MaxRate}[i/3%3])
		x, err := curve.Tidy(l)
		if !slices.Equal(x, tidied(l)) || err != nil {
			t.Fatal(l, x, err)
		}
		for _, at := range []int{0, 1, 2, 3, 7, 100, 999, 1000, s.below(100000), api.MaxTime} {
			n, e1 := curve.At(l, at)
			m, e2 := curve.At(x, at)
			if n != m || n != bytes(l, at) || e1 != nil || e2 != nil {
				t.Fatal(l, x, at, n, m, e1, e2)
			}
		}
		per := 1 + s.below(20)
		d1, e1 := curve.Delay(l, per)
		d2, e2 := curve.Delay(x, per)
		b1, e3 := curve.Busy(l, per)
		b2, e4 := curve.Busy(x, per)
		if d1 != d2 || e1 != e2 || b1 != b2 || e3 != e4 {
			t.Fatal(l, x, per, d1, d2, b1, b2)
		}
	}
}

// P11: at least both together, and at most one byte more.
func TestSumAlways(t *testing.T) {
	var s source
	sums := 0
	for range 3000 {
		a, b := s.curve(4, 30, 3000), s.curve(4, 30, 3000)
		var pairs lines
		for _, x := range a {
			for _, y := range b {
				pairs = append(pairs, api.Line{Burst: x.Burst + y.Burst, Rate: x.Rate + y.Rate})
			}
		}
		want := tidied(pairs)
		x, err := curve.Sum(a, b)
		if len(want) > api.MaxLines {
			if len(x) != 0 || err != api.ErrShape {
				t.Fatal(a, b, x, err)
			}
			continue
		}
		sums++
		if !slices.Equal(x, want) || err != nil {
			t.Fatal(a, b, x, err)
		}
		for range 30 {
			at := s.below(100000)
			if more := bytes(x, at) - bytes(a, at) - bytes(b, at); more < 0 || more > 1 {
				t.Fatal(a, b, x, at, more)
			}
		}
	}
	if sums < 1000 {
		t.Error(sums)
	}
}

// far is behind all that can matter of curves of so small bursts: lines have met, and one more byte has come.
const far = 16000

// delayed and busy by the document's words.
func delayed(l lines, per int) int {
	most := per * bytes(l, 0)
	for t := range far {
		most = max(most, per*bytes(l, t)-t)
	}
	return most
}

func busy(l lines, per int) int {
	for t := 1; t < far*per; t++ {
		if per*bytes(l, t) <= t {
			return t
		}
	}
	return 0
}

// P13, and P14: a delay is at most as long as what is busy.
func TestDelayAndBusyAlways(t *testing.T) {
	var s source
	delays, busies := 0, 0
	for i := range 1000 {
		per := 1 + s.below([]int{4, 30}[i%2])
		l := s.curve(4, 12, []int{1500, 3000, 100}[i%3]/per+5)
		least := api.MaxRate
		for _, x := range l {
			least = min(least, x.Rate)
		}
		d, e1 := curve.Delay(l, per)
		b, e2 := curve.Busy(l, per)
		if least*per > 1000 {
			if d != 0 || e1 != api.ErrNone || b != 0 || e2 != api.ErrNone {
				t.Fatal(l, per, d, e1, b, e2)
			}
			continue
		}
		delays++
		if want := delayed(l, per); d != want || e1 != nil {
			t.Fatal(l, per, d, want, e1)
		}
		if least*per == 1000 {
			if b != 0 || e2 != api.ErrNone {
				t.Fatal(l, per, b, e2)
			}
			continue
		}
		busies++
		if want := busy(l, per); b != want || e2 != nil {
			t.Fatal(l, per, b, want, e2)
		}
		if d > b {
			t.Fatal(l, per, d, b)
		}
	}
	if delays < 300 || busies < 300 {
		t.Error(delays, busies)
	}
}
