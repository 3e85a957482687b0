package gate_test

import (
	"slices"
	"testing"

	"floodgate/api"
	"floodgate/gate"
)

// no bound.
const no = -1

// P82: of links in order, and of the others.
func TestBound(t *testing.T) {
	bent := func(k int) lines { // four lines that all matter, with three bends, which are later ones of a greater k
		return line(1, 900, 1+k, 300, 1+7*k, 90, 1+90*k, 0)
	}
	for _, c := range []struct {
		name            string
		curves          []lines
		per             int
		ordered, others int
	}{
		{"no curve", flows(), 1, no, no},
		{"the first is empty", flows(nil, line(5, 1), line(5, 1)), 1, no, no},
		{"the first is empty, all others are not", append(flows()[:1], slices.Repeat([]lines{line(5, 1)}, api.MaxFlows-1)...), 1, no, no},
		{"one, as the document tells", flows(line(5, 100)), 2, 10, 12},
		{"one byte", flows(line(1, 0)), 1, 1, 1},
		{"one byte, of the slowest link", flows(line(1, 0)), api.MaxPer, api.MaxPer, api.MaxPer},
		{"two", flows(line(5, 100), line(3, 200)), 2, 16, 36},
		{"two, the other way round", flows(line(3, 200), line(5, 100)), 2, 16, 36},
		{"those ahead of an empty one", flows(line(5, 100), nil, line(3, 200)), 2, 10, 12},
		{"those ahead of the first empty one", flows(line(5, 100), line(3, 200), nil, line(9, 9), nil, line(9, 9)), 2, 16, 36},
		{"an empty one that is not nil", flows(line(5, 100), lines{}, line(3, 200)), 2, 10, 12},
		{"all of them", slices.Repeat([]lines{line(2, 10)}, api.MaxFlows), 5, 80, 130},
		{"all but the last", append(slices.Repeat([]lines{line(2, 10)}, api.MaxFlows-1), nil), 5, 70, 105},
		{"two lines that both matter", flows(line(10, 0, 4, 1000)), 2, 14, 20},
		{"one that brings just what the link sends", flows(line(5, 500)), 2, 10, no},
		{"one that brings more", flows(line(5, 501)), 2, no, no},
		{"two that bring just what the link sends", flows(line(5, 300), line(4, 200)), 2, 18, no},
		{"two that bring more together, and not alone", flows(line(5, 300), line(4, 201)), 2, no, no},
		{"one that brings more at first", flows(line(5, 9000, 30, 500)), 2, 60, no},
		{"the greatest burst", flows(line(api.MaxBurst, 0)), api.MaxPer, api.MaxBurst * api.MaxPer, api.MaxBurst * api.MaxPer},
		{"the greatest burst together", flows(line(api.MaxBurst-1, 0), line(1, 0)), 1, api.MaxBurst, api.MaxBurst},
		{"a greater burst together", flows(line(api.MaxBurst, 0), line(1, 0)), 1, no, no},
		{"a greater burst, behind an empty one", flows(line(api.MaxBurst, 0), nil, line(1, 0)), 1, api.MaxBurst, api.MaxBurst},
		{"the greatest rate together", flows(line(1, api.MaxRate-1, 1, 0), line(1, 1, 1, 0)), 1, 2, 2},
		{"a greater rate together", flows(line(1, api.MaxRate, 1, 0), line(1, 1, 1, 0)), 1, no, no},
		{"a greater rate, behind an empty one", flows(line(1, api.MaxRate, 1, 0), nil, line(1, 1, 1, 0)), 1, 1, 1},
		{"too many lines together", flows(bent(1), bent(2)), 2, no, no},
		{"too many lines, behind an empty one", flows(bent(1), nil, bent(2)), 3, 5, 30},
		{"as many lines as may be, of two", flows(bent(1), bent(2)[1:]), 2, 15, 70},
		{"lines that bend at one time", flows(bent(1), bent(1), bent(1)), 2, 34, 102},
		{"as many lines as may be, more than matter", flows(line(3, 0, 4, 0, 5, 0, 6, 0, 3, 0, 3, 9), line(3, 0, 4, 0, 5, 0, 6, 0, 3, 0, 3, 9)), 2, 12, 12},
		// The first two together are tidy, and that has no such rate any more.
		{"one by one, from the first on", flows(line(5, 60000, 5, 10), line(5, 30000, 7, 10), line(5, 30000, 7, 10)), 1, 18, 19},
		{"the same ones from the other end", flows(line(5, 30000, 7, 10), line(5, 30000, 7, 10), line(5, 60000, 5, 10)), 1, no, no},
	} {
		for _, kind := range kinds {
			g := by(kind, c.per)
			g.Curves = c.curves
			want := c.others
			if kind == "fifo" {
				want = c.ordered
			}
			n, err := gate.Bound(g)
			if want == no && (n != 0 || err != api.ErrNone) || want != no && (n != want || err != nil) {
				t.Error(c.name, kind, n, want, err)
			}
		}
	}
}

// P82: a bound hangs neither on the numbers nor on the packets, of which there may be any.
func TestBoundNumbers(t *testing.T) {
	for _, kind := range kinds[1:] {
		for _, n := range []int{leastOf[kind], greatestOf[kind]} {
			g := by(kind, 2, line(5, 100), line(3, 200))
			g.Numbers = all(n)
			if bound, err := gate.Bound(g); bound != 36 || err != nil {
				t.Error(kind, n, bound, err)
			}
		}
	}
}

// P83: the bound, met to the tick.
func TestBoundIsMet(t *testing.T) {
	for _, c := range []struct {
		name  string
		g     gate.Gate
		p     packets
		delay int
	}{
		{"in order", inOrder(2, line(5, 100), line(3, 200)), of(0, 5, 0, 1, 3, 0), 16},
		{"in order, one byte after the other", inOrder(2, line(4, 1000, 10, 0)), of(0, 4, 0, 0, 1, 0, 0, 1, 0, 0, 1, 0, 0, 1, 0, 0, 1, 0, 0, 1, 0), 14},
		// One byte of flow 1 waits for all that ever comes ahead of it.
		{"by rank", gate.Gate{Curves: flows(line(2, 0), line(1, 0)), Kind: "rank", Per: 3, Numbers: each(0, 1)}, of(1, 1, 0, 0, 2, 0), 9},
		{"by deadlines", gate.Gate{Curves: flows(line(2, 0), line(1, 0)), Kind: "due", Per: 3, Numbers: each(0, 1)}, of(1, 1, 0, 0, 2, 0), 9},
		{"by rank, of more that comes", gate.Gate{Curves: flows(line(2, 1000, 4, 0), line(1, 0)), Kind: "rank", Per: 1, Numbers: each(0, 1)}, of(1, 1, 0, 0, 2, 0, 0, 1, 0, 0, 1, 0), 5},
		{"round by round", gate.Gate{Curves: flows(line(2, 0), line(1, 0)), Kind: "round", Per: 3, Numbers: each(2, 1)}, of(0, 2, 0, 1, 1, 0), 9},
		{"by tags", gate.Gate{Curves: flows(line(2, 0), line(1, 0)), Kind: "fair", Per: 3, Numbers: each(12, 1)}, of(1, 1, 0, 0, 2, 0), 9},
	} {
		q, l, err := gate.Run(c.g, c.p)
		if err != nil {
			t.Error(c.name, err)
		}
		if most := longest(q, l); most != c.delay {
			t.Error(c.name, most, q, l)
		}
		if bound, err := gate.Bound(c.g); bound != c.delay || err != nil {
			t.Error(c.name, bound, err)
		}
	}
}

// longest delay at the link.
func longest(q packets, l sents) int {
	most := 0
	for _, x := range l {
		most = max(most, x.To-q[x.Packet].At)
	}
	return most
}
