package round_test

import (
	"cmp"
	"slices"
	"testing"

	"floodgate/api"
	"floodgate/fifo"
	"floodgate/round"
)

// source of numbers that look like none in order, the same ones in each run.
type source uint32

func (s *source) below(n int) int {
	*s = *s*1664525 + 1013904223
	return int(*s>>8) % n
}

func (s *source) packets(most, sizes, gaps, flows int) packets {
	p := make(packets, s.below(most+1))
	at := s.below(gaps)
	for i := range p {
		p[i] = api.Packet{Flow: s.below(flows), Size: 1 + s.below(sizes), At: at}
		at += max(0, s.below(2*gaps)-gaps/2)
	}
	return p
}

// quanta from 1 up to most.
func (s *source) quanta(most int) []int {
	out := make([]int, api.MaxFlows)
	for i := range out {
		out[i] = 1 + s.below(most)
	}
	return out
}

// shuffled packets: some of them, in any order, some twice, with Froms of any order.
func (s *source) shuffled(p packets, most int) sents {
	l := make(sents, s.below(most+1))
	for i := range l {
		l[i] = api.Sent{Packet: s.below(len(p)), From: s.below(p[len(p)-1].At + 20)}
	}
	return l
}

// tickByTick is what a link sends by the document's words. How often a queue was empty behind a packet, though its flow had come again meanwhile, is told beside it.
func tickByTick(p packets, per int, quanta []int) (out sents, again int) {
	const none = -1
	queues, credits := map[int][]int{}, map[int]int{}
	var row []int
	served, come := none, 0
	for tick, free := 0, 0; len(out) < len(p); tick++ {
		if tick < free {
			continue
		}
		for ; come < len(p) && p[come].At <= tick; come++ {
			flow := p[come].Flow
			queues[flow] = append(queues[flow], come)
			if !slices.Contains(row, flow) && served != flow {
				row = append(row, flow)
			}
		}
		for sends := false; !sends && (served != none || len(row) > 0); {
			if served == none {
				served, row = row[0], row[1:]
				credits[served] += quanta[served]
			}
			first := queues[served][0]
			if p[first].Size > credits[served] {
				row = append(row, served)
				served = none
				continue
			}
			sends = true
			free = tick + per*p[first].Size
			out = append(out, api.Sent{Packet: first, From: tick, To: free})
			queues[served] = queues[served][1:]
			credits[served] -= p[first].Size
			if len(queues[served]) == 0 {
				if slices.ContainsFunc(p[come:], func(x api.Packet) bool { return x.Flow == served && x.At <= free }) {
					again++
				}
				credits[served], served = 0, none
			}
		}
	}
	return out, again
}

// P50: as by its words.
func TestAlways(t *testing.T) {
	var s source
	turned, again := 0, 0
	for i := range 3000 {
		per := 1 + s.below(4)
		p := s.packets(20, []int{1, 3, 9}[i%3], []int{2, 10, 40}[i/3%3], []int{2, 4, 8}[i/9%3])
		quanta := s.quanta([]int{1, 4, 12}[i/27%3])
		want, n := tickByTick(p, per, quanta)
		l, err := round.Run(p, per, quanta)
		if !slices.Equal(l, want) || err != nil {
			t.Fatal(p, per, quanta, l, want, err)
		}
		inOrder, _ := fifo.Run(p, per)
		if !slices.Equal(l, inOrder) {
			turned++
		}
		again += n
	}
	if turned < 1000 || again < 1000 {
		t.Error(turned, again)
	}
}

// inRounds is what is sent where all come at once: a packet's round is the first one whose quanta, together, pay for it and all ahead of it of its flow; in a round the flows stand as they came.
func inRounds(p packets, per int, quanta []int) sents {
	var bytes, rounds, places []int
	bytes = make([]int, api.MaxFlows)
	order := make([]int, len(p))
	for i, x := range p {
		order[i] = i
		bytes[x.Flow] += x.Size
		rounds = append(rounds, (bytes[x.Flow]+quanta[x.Flow]-1)/quanta[x.Flow])
		places = append(places, slices.IndexFunc(p, func(y api.Packet) bool { return y.Flow == x.Flow }))
	}
	slices.SortStableFunc(order, func(i, k int) int {
		return cmp.Or(cmp.Compare(rounds[i], rounds[k]), cmp.Compare(places[i], places[k]))
	})
	var out sents
	for _, number := range order {
		now := p[0].At
		if len(out) > 0 {
			now = out[len(out)-1].To
		}
		out = append(out, api.Sent{Packet: number, From: now, To: now + per*p[number].Size})
	}
	return out
}

// P50, of as many as may be, where all come at once.
func TestAllAtOnce(t *testing.T) {
	var s source
	for i := range 300 {
		per, at := 1+s.below(api.MaxPer), s.below(1<<20)
		p := s.packets(api.MaxPackets, []int{api.MaxSize, 200, 10}[i%3], 1, []int{2, 4, 8}[i/3%3])
		for k := range p {
			p[k].At = at
		}
		quanta := s.quanta([]int{api.MaxQuantum, 100, 5, 1}[i/9%4])
		l, err := round.Run(p, per, quanta)
		if want := inRounds(p, per, quanta); !slices.Equal(l, want) || err != nil {
			t.Fatal(p, per, quanta, l, want, err)
		}
	}
}

// P30, of rounds: whatever the quanta, each packet is sent once, whole, and the link is busy at the same ticks as in order; packets of a flow stay in order.
func TestGreatAlways(t *testing.T) {
	var s source
	for i := range 150 {
		per := 1 + s.below([]int{1, 30, api.MaxPer}[i%3])
		p := s.packets(api.MaxPackets, api.MaxSize>>(i%4*3), 1+1<<(i%32), 8)
		inOrder, _ := fifo.Run(p, per)
		quanta := s.quanta(min(api.MaxQuantum, 1<<(i%13)))
		l, err := round.Run(p, per, quanta)
		if len(l) != len(p) || err != nil {
			t.Fatal(p, per, quanta, l, err)
		}
		if !slices.Equal(fifo.Busy(l), fifo.Busy(inOrder)) {
			t.Fatal(p, per, quanta, l)
		}
		last := slices.Repeat([]int{-1}, api.MaxFlows)
		for _, x := range l {
			y := p[x.Packet]
			if x.From < y.At || x.To != x.From+per*y.Size || x.Packet <= last[y.Flow] {
				t.Fatal(p, per, quanta, l, x)
			}
			last[y.Flow] = x.Packet
		}
	}
}

// waits tells, by the document's words, whether a flow has a packet waiting at the i-th of l.
func waits(p packets, l sents, i, flow int) bool {
	return slices.ContainsFunc(l[i+1:], func(x api.Sent) bool {
		y := p[x.Packet]
		return y.Flow == flow && y.At <= l[i].From
	})
}

// stretches of l in which all these flows wait all the time, from and to (which is not in it).
func stretches(p packets, l sents, flows ...int) [][2]int {
	var out [][2]int
	for from := range l {
		for to := from + 1; to <= len(l); to++ {
			if slices.ContainsFunc(flows, func(flow int) bool { return !waits(p, l, to-1, flow) }) {
				break
			}
			out = append(out, [2]int{from, to})
		}
	}
	return out
}

// bytes of a flow that are sent.
func bytes(p packets, l sents, flow int) int {
	n := 0
	for _, x := range l {
		if p[x.Packet].Flow == flow {
			n += p[x.Packet].Size
		}
	}
	return n
}

// spreadOf two flows by the document's words.
func spreadOf(p packets, l sents, quanta []int, a, b int) int {
	most := 0
	for _, x := range stretches(p, l, a, b) {
		n := bytes(p, l[x[0]:x[1]], a)*quanta[b] - bytes(p, l[x[0]:x[1]], b)*quanta[a]
		most = max(most, n, -n)
	}
	return most
}

// P51: as by its words, of what a link sends, and of any list.
func TestSpreadAlways(t *testing.T) {
	var s source
	some, nothing := 0, 0
	for i := range 1500 {
		flows := 2 + i%2
		p := s.packets(24, []int{1, 3, 9, 1500}[i%4], []int{1, 2, 6}[i/4%3], flows)
		if len(p) == 0 {
			continue
		}
		quanta := s.quanta([]int{1, 4, 12, api.MaxQuantum}[i/12%4])
		l, _ := round.Run(p, 1+s.below(3), quanta)
		inOrder, _ := fifo.Run(p, 1)
		for _, l := range []sents{l, inOrder, s.shuffled(p, 30)} {
			a, b := s.below(flows), s.below(flows)
			n, err := round.Spread(p, l, quanta, a, b)
			if n != spreadOf(p, l, quanta, a, b) || a == b && n != 0 || err != nil {
				t.Fatal(p, l, quanta, a, b, n, err)
			}
			switch {
			case n > 0:
				some++
			case a != b:
				nothing++
			}
		}
	}
	if some < 1000 || nothing < 100 {
		t.Error(some, nothing)
	}
}

// greatest Size of a flow's packets, 1 if there is none.
func greatest(p packets, flow int) int {
	most := 1
	for _, x := range p {
		if x.Flow == flow {
			most = max(most, x.Size)
		}
	}
	return most
}

// allowed is by how much two flows' bytes, each times the other one's quantum, may differ: a flow that is not served never has credit for its first packet, and between two turns of a flow that waits any other one has at most one.
func allowed(p packets, quanta []int, a, b int) int {
	return quanta[a]*quanta[b] + (greatest(p, a)-1)*quanta[b] + (greatest(p, b)-1)*quanta[a]
}

// P52: of two flows that always wait, none is ahead of the other by more than a packet and a quantum; and so far they come.
func TestShare(t *testing.T) {
	var s source
	just := 0
	for i := range 1500 {
		flows := []int{2, 3, 8}[i%3]
		p := s.packets(api.MaxPackets, []int{2, 9, 150, api.MaxSize}[i/3%4], []int{1, 2, 9, 700}[i/12%4], flows)
		quanta := s.quanta([]int{1, 5, 100, api.MaxQuantum}[i/48%4])
		l, err := round.Run(p, 1+s.below(3), quanta)
		if err != nil {
			t.Fatal(p, quanta, err)
		}
		for a := range flows {
			for b := range a {
				n, err := round.Spread(p, l, quanta, a, b)
				most := allowed(p, quanta, a, b)
				if n > most || err != nil {
					t.Fatal(p, l, quanta, a, b, n, most, err)
				}
				if n == most {
					just++
				}
			}
		}
	}
	if just < 30 {
		t.Error(just)
	}
}

// P52: against a flow that always waits no other one, whether it waits or not, is ahead by more than a packet and a quantum.
func TestShareOfOne(t *testing.T) {
	var s source
	just, seen := 0, 0
	for i := range 600 {
		flows := 2 + i%3
		p := s.packets(30, []int{2, 9, 40}[i/3%3], []int{1, 4, 12}[i/9%3], flows)
		quanta := s.quanta([]int{1, 5, 50}[i/27%3])
		l, _ := round.Run(p, 1, quanta)
		for a := range flows {
			for _, x := range stretches(p, l, a) {
				part := l[x[0]:x[1]]
				for b := range flows {
					ahead := bytes(p, part, b)*quanta[a] - bytes(p, part, a)*quanta[b]
					most := allowed(p, quanta, a, b)
					if ahead > most {
						t.Fatal(p, l, quanta, a, b, x, ahead, most)
					}
					if ahead == most {
						just++
					}
					seen++
				}
			}
		}
	}
	if just < 30 || seen < 10000 {
		t.Error(just, seen)
	}
}

// P1, P3: whatever is handed over, a call ends, and an error has nothing beside it.
func TestWild(t *testing.T) {
	var s source
	wild := []int{-1 << 63, -1 << 59, -2, -1, 0, 1, 2, 3, 5, 8, api.MaxSize, api.MaxPer, api.MaxTime, 1 << 59, 1<<63 - 1}
	tame := []int{0, 1, 1, 1, 2, 3, 5}
	well := 0
	for i := range 6000 {
		// Wild numbers alone hardly ever come to the calls' ends.
		some := func(least int) int {
			if i%4 == 0 || s.below(60) == 0 {
				return wild[s.below(len(wild))]
			}
			return max(least, tame[s.below(len(tame))])
		}
		p, l, quanta := make(packets, s.below(3)), make(sents, s.below(3)), make([]int, 7+s.below(3))
		for i := range p {
			p[i] = api.Packet{Flow: some(0), Size: some(1), At: some(0)}
		}
		for i := range l {
			l[i] = api.Sent{Packet: some(0), From: some(0), To: some(0)}
		}
		for i := range quanta {
			quanta[i] = some(1)
		}
		if x, err := round.Run(p, some(1), quanta); err != nil && len(x) != 0 || err == nil && len(x) != len(p) {
			t.Fatal(p, quanta, x, err)
		}
		n, err := round.Spread(p, l, quanta, some(0), some(0))
		if n < 0 || err != nil && n != 0 {
			t.Fatal(p, l, quanta, n, err)
		}
		if err == nil && len(l) > 0 {
			well++
		}
	}
	if well < 30 {
		t.Error(well)
	}
}
