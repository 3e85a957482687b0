package round_test

import (
	"math"
	"slices"
	"testing"

	"floodgate/api"
	"floodgate/round"
)

// P51: of flows 0 and 1.
func TestSpread(t *testing.T) {
	const low, high, end = math.MinInt, math.MaxInt, api.MaxTime
	p := of(0, 5, 0, 0, 6, 0, 0, 7, 0, 1, 20, 0, 1, 30, 0, 1, 40, 0, 2, 900, 0)
	later := of(0, 5, 0, 0, 6, 0, 0, 7, 0, 1, 20, 10, 1, 30, 10)
	for _, c := range []struct {
		name   string
		p      packets
		l      sents
		quanta []int
		want   int
	}{
		{"no lists", nil, nil, each(), 0},
		{"nothing is sent", p, nil, each(), 0},
		{"nobody waits", p, sent(0, 0, 0), each(), 0},
		{"one waits", p, sent(0, 0, 0, 1, 0, 0), each(), 0},
		{"the other one waits", p, sent(0, 0, 0, 3, 0, 0), each(), 0},
		{"both wait: a stretch of one", p, sent(0, 0, 0, 1, 0, 0, 3, 0, 0), each(2, 3), 5 * 3},
		{"whoever is behind", p, sent(0, 0, 0, 3, 0, 0, 1, 0, 0), each(2, 3), 5 * 3},
		{"a stretch of one, of the second flow", p, sent(4, 0, 0, 3, 0, 0, 0, 0, 0), each(2, 3), 30 * 2},
		{"the last one of a flow does not wait for itself", p, sent(0, 0, 0, 1, 0, 0, 2, 0, 0, 3, 0, 0), each(2, 3), 11 * 3},
		{"what is never sent does not wait", p, sent(0, 0, 0, 1, 0, 0, 2, 0, 0), each(2, 3), 0},
		{"a third flow counts nothing", p, sent(6, 0, 0, 0, 0, 0, 6, 0, 0, 3, 0, 0, 1, 0, 0, 3, 0, 0), each(1, 4, 7), 5 * 4},
		{"of a third flow alone", p, sent(6, 0, 0, 0, 0, 0, 3, 0, 0), each(1, 4, 7), 0},
		{"one makes up for the other", p, sent(3, 0, 0, 0, 0, 0, 1, 0, 0, 2, 0, 0, 5, 0, 0, 2, 0, 0), each(1, 2), 2 * (5 + 6 + 7)},
		{"a part from the middle on", p, sent(0, 0, 0, 3, 0, 0, 4, 0, 0, 1, 0, 0, 2, 0, 0, 5, 0, 0), each(1, 1), 50},
		{"with one of the other flow in it", p, sent(3, 0, 0, 0, 0, 0, 4, 0, 0, 1, 0, 0, 2, 0, 0, 5, 0, 0), each(1, 1), 20 - 5 + 30},
		{"not with one of the other flow in it", p, sent(3, 0, 0, 0, 0, 0, 4, 0, 0, 1, 0, 0, 2, 0, 0, 5, 0, 0), each(1, 5), 30},
		{"times the other flow's quantum", p, sent(0, 0, 0, 3, 0, 0, 1, 0, 0, 4, 0, 0), each(100, 7), 2000},
		{"has not come yet", later, sent(0, 0, 5, 1, 5, 11, 2, 11, 18, 3, 18, 0, 4, 38, 0), each(2, 3), 0},
		{"comes just then", later, sent(0, 0, 5, 1, 10, 16, 2, 16, 0, 3, 18, 0, 4, 38, 0), each(2, 3), 6 * 3},
		{"comes a tick behind", later, sent(0, 0, 5, 1, 9, 15, 2, 16, 0, 3, 18, 0, 4, 38, 0), each(2, 3), 0},
		{"none waits between two stretches", later, sent(0, 10, 0, 1, 9, 0, 0, 10, 0, 2, 10, 0, 3, 10, 0), each(1, 1), 5},
		{"the greater one of two stretches", later, sent(0, 10, 0, 0, 9, 0, 1, 10, 0, 2, 10, 0, 3, 10, 0), each(1, 1), 6},
		{"one that came sooner, further behind, of one flow", of(0, 5, 0, 1, 1, 0, 1, 2, 9, 0, 1, 9), sent(0, 4, 9, 2, 9, 0, 3, 9, 0, 1, 9, 0), each(1, 1), 2},
		{"one that came sooner, further behind, of both", of(0, 5, 0, 0, 1, 0, 1, 1, 0, 1, 2, 9, 0, 1, 9), sent(0, 4, 9, 3, 9, 0, 4, 9, 0, 1, 9, 0, 2, 9, 0), each(1, 1), 5},
		{"one, again and again", p, slices.Concat(slices.Repeat(sent(2, 0, 0), 999), sent(3, 0, 0, 2, 0, 0)), each(1, 3), 999 * 21},
		{"by From alone, in any order", p, sent(0, 90, -90, 1, 5, 0, 2, 0, 7, 2, 30, 0, 3, 30, 0), each(1, 1), 18},
		{"ahead of all ticks", p, sent(0, low, 0, 1, -1, 0, 2, 0, 0, 0, 0, 0, 3, 0, 0), each(1, 1), 7},
		{"far behind", p, sent(0, high, 0, 1, high, 0, 2, 1<<59, 0, 0, low, 0, 3, low, 0), each(1, 1), 18},
		{"far behind, and nobody waits", p, sent(0, high, 0, 1, high, 0), each(1, 1), 0},
		{"at the last tick", of(0, 8, end, 0, 8, end, 1, 8, end), sent(0, end, 0, 1, end, 0, 2, end, 0), each(1, 1), 8},
		{"the greatest", slices.Repeat(of(0, api.MaxSize, 0, 1, 1, 0), 2), sent(0, 0, 0, 2, 0, 0, 0, 0, 0, 3, 0, 0), each(1, api.MaxQuantum), 2 * 4500000},
	} {
		n, err := round.Spread(c.p, c.l, c.quanta, 0, 1)
		if n != c.want || err != nil {
			t.Error(c.name, n, err)
		}
		if m, err := round.Spread(c.p, c.l, c.quanta, 1, 0); m != n || err != nil {
			t.Error(c.name, "the other way", m, err)
		}
		for flow := range api.MaxFlows {
			if m, err := round.Spread(c.p, c.l, c.quanta, flow, flow); m != 0 || err != nil {
				t.Error(c.name, "against itself", flow, m, err)
			}
		}
	}
}

// P51: of any two flows, by their own quanta.
func TestSpreadFlows(t *testing.T) {
	p := of(7, 5, 0, 3, 8, 0, 7, 1, 0)
	l := sent(0, 0, 5, 1, 5, 13, 2, 13, 14)
	quanta := []int{1, 1, 1, 6, 1, 1, 1, 9}
	for a := range api.MaxFlows {
		for b := range api.MaxFlows {
			want := 0
			if a == 7 && b == 3 || a == 3 && b == 7 {
				want = 5 * 6
			}
			if n, err := round.Spread(p, l, quanta, a, b); n != want || err != nil {
				t.Error(a, b, n, err)
			}
		}
	}
}

// P51: wrong quanta, or a flow that there is not; only then wrong packets; only then a packet that there is not.
func TestSpreadFaults(t *testing.T) {
	p, none := of(0, 3, 5, 0, 1, 5), sent(0, 0, 99, 2, 0, 99)
	someSents := []sents{nil, sent(0, 0, 99), none}
	somePackets := []packets{nil, p, of(0, 0, 0), make(packets, api.MaxPackets+1)}
	wrongFlows := []int{-1, api.MaxFlows, math.MinInt, math.MaxInt}
	for err, lists := range wrongQuanta() {
		for _, quanta := range lists {
			for _, l := range someSents {
				for _, p := range somePackets {
					for _, flow := range append(wrongFlows, 0) {
						if n, got := round.Spread(p, l, quanta, flow, 1); n != 0 || got != err {
							t.Error(p, l, quanta, flow, n, got)
						}
					}
				}
			}
		}
	}
	for _, flow := range wrongFlows {
		for _, l := range someSents {
			for _, p := range somePackets {
				for _, two := range [][2]int{{flow, 0}, {0, flow}, {flow, flow}} {
					if n, err := round.Spread(p, l, each(), two[0], two[1]); n != 0 || err != api.ErrBound {
						t.Error(p, l, two, n, err)
					}
				}
			}
		}
	}
	for _, c := range wrongPackets {
		for _, l := range append(someSents, sent(999, 0, 0)) {
			if n, err := round.Spread(c.p, l, each(), 0, 1); n != 0 || !isFault(err, c.err, c.at) {
				t.Error(c.p, l, n, err)
			}
		}
	}
}

// P51: a packet that there is not, also of flows that nobody asks for, or of one against itself.
func TestSpreadNone(t *testing.T) {
	p := of(0, 3, 5, 0, 1, 5)
	for _, c := range []struct {
		p  packets
		l  sents
		at int
	}{
		{nil, sent(0, 0, 0), 0},
		{p, sent(0, 0, 99, 2, 0, 99), 1},
		{p, sent(-1, 0, 99), 0},
		{p, sent(0, 0, 99, 1, 0, 99, math.MinInt, 0, 9, math.MaxInt, 0, 9), 2},
		{p, sent(math.MaxInt, 0, 99, 0, 0, 99), 0},
		{p[:1], sent(0, 0, 9, 1, 0, 9), 1}, // what lies behind a list's length is no packet of it
	} {
		for _, two := range [][2]int{{0, 1}, {4, 7}, {0, 0}} {
			if n, err := round.Spread(c.p, c.l, each(), two[0], two[1]); n != 0 || !isFault(err, api.ErrNone, c.at) {
				t.Error(c.p, c.l, two, n, err)
			}
		}
	}
}
