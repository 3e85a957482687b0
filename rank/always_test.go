package rank_test

import (
	"slices"
	"testing"

	"floodgate/api"
	"floodgate/fifo"
	"floodgate/rank"
)

// source of numbers that look like none in order, the same ones in each run.
type source uint32

func (s *source) below(n int) int {
	*s = *s*1664525 + 1013904223
	return int(*s>>8) % n
}

func (s *source) packets(most, sizes, gaps int) packets {
	p := make(packets, s.below(most+1))
	at := s.below(gaps)
	for i := range p {
		p[i] = api.Packet{Flow: s.below(api.MaxFlows), Size: 1 + s.below(sizes), At: at}
		at += max(0, s.below(2*gaps)-gaps/2)
	}
	return p
}

// numbers of flows, up to most.
func (s *source) numbers(most int) []int {
	out := make([]int, api.MaxFlows)
	for i := range out {
		out[i] = s.below(most + 1)
	}
	return out
}

// tickByTick is what a link sends by the document's words: of those that wait that of the least number, of these the first.
func tickByTick(p packets, per int, number func(i int) int) sents {
	var out sents
	done := make([]bool, len(p))
	for tick, free := 0, 0; len(out) < len(p); tick++ {
		if tick < free {
			continue
		}
		best := -1
		for i := len(p) - 1; i >= 0; i-- {
			if !done[i] && p[i].At <= tick && (best < 0 || number(i) <= number(best)) {
				best = i
			}
		}
		if best >= 0 {
			free = tick + per*p[best].Size
			done[best] = true
			out = append(out, api.Sent{Packet: best, From: tick, To: free})
		}
	}
	return out
}

// howLate by the document's words.
func howLate(p packets, l sents, dues []int) int {
	most := 0
	for _, x := range l {
		if late := x.To - (p[x.Packet].At + dues[p[x.Packet].Flow]); late > most {
			most = late
		}
	}
	return most
}

// P40, P41: as by their words.
func TestAlways(t *testing.T) {
	var s source
	turned, late := 0, 0
	for i := range 1500 {
		per := 1 + s.below(4)
		p := s.packets(20, []int{1, 3, 9}[i%3], []int{2, 10, 40}[i/3%3])
		ranks, dues := s.numbers([]int{1, 3, 100}[i/9%3]), s.numbers([]int{1, 9, 300}[i/9%3])

		l, err := rank.Run(p, per, ranks)
		want := tickByTick(p, per, func(i int) int { return ranks[p[i].Flow] })
		if !slices.Equal(l, want) || err != nil {
			t.Fatal(p, per, ranks, l, want, err)
		}

		l, err = rank.Deadlines(p, per, dues)
		want = tickByTick(p, per, func(i int) int { return p[i].At + dues[p[i].Flow] })
		if !slices.Equal(l, want) || err != nil {
			t.Fatal(p, per, dues, l, want, err)
		}
		n, err := rank.Late(p, l, dues)
		if n != howLate(p, l, dues) || err != nil {
			t.Fatal(p, per, dues, l, n, err)
		}

		inOrder, _ := fifo.Run(p, per)
		if !slices.Equal(l, inOrder) {
			turned++
		}
		if n > 0 {
			late++
		}
	}
	if turned < 500 || late < 500 || late > 1400 {
		t.Error(turned, late)
	}
}

// P30, of both: whatever the numbers of flows, each packet is sent once, whole, and the link is busy at the same ticks as in order; packets of a flow stay in order.
func TestGreatAlways(t *testing.T) {
	var s source
	for i := range 150 {
		per := 1 + s.below([]int{1, 30, api.MaxPer}[i%3])
		p := s.packets(api.MaxPackets, api.MaxSize>>(i%4*3), 1+1<<(i%32))
		inOrder, _ := fifo.Run(p, per)
		for name, run := range runs {
			l, err := run(p, per, s.numbers(min(mostOf[name], 1<<(i%20))))
			if len(l) != len(p) || err != nil {
				t.Fatal(name, p, per, l, err)
			}
			if !slices.Equal(fifo.Busy(l), fifo.Busy(inOrder)) {
				t.Fatal(name, p, per, l)
			}
			last := slices.Repeat([]int{-1}, api.MaxFlows)
			for _, x := range l {
				y := p[x.Packet]
				if x.From < y.At || x.To != x.From+per*y.Size || x.Packet <= last[y.Flow] {
					t.Fatal(name, p, per, l, x)
				}
				last[y.Flow] = x.Packet
			}
		}
	}
}

// orders of n numbers, all of them.
func orders(n int) [][]int {
	if n == 0 {
		return [][]int{nil}
	}
	var out [][]int
	for _, x := range orders(n - 1) {
		for i := range n {
			out = append(out, slices.Insert(slices.Clone(x), i, n-1))
		}
	}
	return out
}

// inThisOrder is what a link sends that takes packets, which have all come, in this order.
func inThisOrder(p packets, per int, order []int) sents {
	var out sents
	now := p[0].At
	for _, number := range order {
		out = append(out, api.Sent{Packet: number, From: now, To: now + per*p[number].Size})
		now += per * p[number].Size
	}
	return out
}

// P42: where all come at once, no order is less late than by deadlines.
func TestNoneLateInVain(t *testing.T) {
	var s source
	inTime, better := 0, 0
	for i := range 300 {
		n := 1 + i%6
		at, per := s.below(50), 1+s.below(3)
		p, dues := make(packets, n), s.numbers([]int{5, 20, 60}[i%3])
		for k := range p {
			p[k] = api.Packet{Flow: s.below(api.MaxFlows), Size: 1 + s.below(6), At: at}
		}
		l, e1 := rank.Deadlines(p, per, dues)
		late, e2 := rank.Late(p, l, dues)
		if e1 != nil || e2 != nil {
			t.Fatal(e1, e2)
		}
		if late == 0 {
			inTime++
		}
		for _, order := range orders(n) {
			other, err := rank.Late(p, inThisOrder(p, per, order), dues)
			if other < late || err != nil {
				t.Fatal(p, per, dues, late, order, other, err)
			}
			if other > late {
				better++
			}
		}
	}
	if inTime < 50 || better < 1000 {
		t.Error(inTime, better)
	}
}

// needLate is by how much some packet is late, whatever the order, where all come at once: of those that are due up to some tick, the last one is through when all of them are.
func needLate(p packets, per int, dues []int) int {
	late := 0
	for _, due := range dues {
		ticks := 0
		for _, x := range p {
			if dues[x.Flow] <= due {
				ticks += per * x.Size
			}
		}
		if ticks > 0 {
			late = max(late, ticks-due)
		}
	}
	return late
}

// P42, of as many as may be.
func TestManyNoneLateInVain(t *testing.T) {
	var s source
	inTime, late := 0, 0
	for i := range 300 {
		per := 1 + s.below([]int{1, 30, api.MaxPer}[i%3])
		p := make(packets, 1+s.below(api.MaxPackets))
		at := s.below(1 << 20)
		for k := range p {
			p[k] = api.Packet{Flow: s.below(api.MaxFlows), Size: 1 + s.below(api.MaxSize), At: at}
		}
		dues := s.numbers(len(p) * per * api.MaxSize)
		l, e1 := rank.Deadlines(p, per, dues)
		n, e2 := rank.Late(p, l, dues)
		if n != needLate(p, per, dues) || e1 != nil || e2 != nil {
			t.Fatal(p, per, dues, n, e1, e2)
		}
		if n == 0 {
			inTime++
		} else {
			late++
		}
	}
	if inTime < 30 || late < 30 {
		t.Error(inTime, late)
	}
}

// P1, P3: whatever is handed over, a call ends, and an error has nothing beside it.
func TestWild(t *testing.T) {
	var s source
	wild := []int{-1 << 63, -1 << 59, -2, -1, 0, 1, 2, 3, 5, 8, api.MaxSize, api.MaxPer, api.MaxTime, 1 << 59, 1<<63 - 1}
	tame := []int{0, 1, 1, 1, 2, 3, 5}
	well := 0
	for i := range 4000 {
		// Wild numbers alone hardly ever come to the calls' ends.
		some := func() int {
			if i%4 == 0 || s.below(40) == 0 {
				return wild[s.below(len(wild))]
			}
			return tame[s.below(len(tame))]
		}
		p, l, numbers := make(packets, s.below(3)), make(sents, s.below(3)), make([]int, 7+s.below(3))
		for i := range p {
			p[i] = api.Packet{Flow: some(), Size: some(), At: some()}
		}
		for i := range l {
			l[i] = api.Sent{Packet: some(), From: some(), To: some()}
		}
		for i := range numbers {
			numbers[i] = some()
		}
		for name, run := range runs {
			if x, err := run(p, some(), numbers); err != nil && len(x) != 0 || err == nil && len(x) != len(p) {
				t.Fatal(name, p, numbers, x, err)
			}
		}
		n, err := rank.Late(p, l, numbers)
		if err != nil && n != 0 {
			t.Fatal(p, l, numbers, n, err)
		}
		if err == nil && len(l) > 0 {
			well++
		}
	}
	if well < 30 {
		t.Error(well)
	}
}
