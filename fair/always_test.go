package fair_test

import (
	"cmp"
	"slices"
	"testing"

	"floodgate/api"
	"floodgate/fair"
	"floodgate/fifo"
)

// source of numbers that look like none in order, the same ones in each run.
type source uint32

func (s *source) below(n int) int {
	*s = *s*1664525 + 1013904223
	return int(*s>>8) % n
}

func (s *source) packets(most, sizes, gaps, flows int) packets {
	p := make(packets, s.below(most+1))
	at := s.below(gaps)
	for i := range p {
		p[i] = api.Packet{Flow: s.below(flows), Size: 1 + s.below(sizes), At: at}
		at += max(0, s.below(2*gaps)-gaps/2)
	}
	return p
}

func (s *source) weights() []int {
	out := make([]int, api.MaxFlows)
	for i := range out {
		out[i] = []int{1, 2, 3, 4, 6, 12}[s.below(6)]
	}
	return out
}

// tickByTick is what a link sends by the document's words, where each packet gets its tag at the very tick at which it comes; and these tags. How often two that wait have the least tag is told beside them.
func tickByTick(p packets, per int, weights []int) (out sents, tags []int, same int) {
	var (
		aheads  [api.MaxFlows]int
		v, free int
	)
	tags = make([]int, len(p))
	done := make([]bool, len(p))
	for tick := 0; len(out) < len(p); tick++ {
		for i, x := range p {
			if x.At == tick {
				tags[i] = max(v, aheads[x.Flow]) + x.Size*12/weights[x.Flow]
				aheads[x.Flow] = tags[i]
			}
		}
		if tick < free {
			continue
		}
		best, others := -1, 0
		for i := len(p) - 1; i >= 0; i-- {
			switch {
			case done[i] || p[i].At > tick:
			case best < 0 || tags[i] < tags[best]:
				best, others = i, 0
			case tags[i] == tags[best]:
				best = i
				others++
			}
		}
		if best < 0 {
			v, aheads = 0, [api.MaxFlows]int{}
			continue
		}
		same += others
		v = tags[best]
		done[best] = true
		free = tick + per*p[best].Size
		out = append(out, api.Sent{Packet: best, From: tick, To: free})
	}
	return out, tags, same
}

// P60, P61: as by their words.
func TestAlways(t *testing.T) {
	var s source
	turned, same, idle, just := 0, 0, 0, 0
	for i := range 3000 {
		per := 1 + s.below(4)
		p := s.packets(20, []int{1, 3, 9}[i%3], []int{2, 10, 40}[i/3%3], []int{2, 4, 8}[i/9%3])
		weights := s.weights()
		want, wantTags, n := tickByTick(p, per, weights)
		l, err := fair.Run(p, per, weights)
		if !slices.Equal(l, want) || err != nil {
			t.Fatal(p, per, weights, l, want, err)
		}
		tags, err := fair.Tags(p, per, weights)
		if !slices.Equal(tags, wantTags) || err != nil {
			t.Fatal(p, per, weights, tags, wantTags, err)
		}
		inOrder, _ := fifo.Run(p, per)
		if !slices.Equal(l, inOrder) {
			turned++
		}
		same += n
		idle += max(0, len(fifo.Busy(l))-1)
		for k := 1; k < len(l); k++ {
			if p[l[k].Packet].At == l[k-1].To {
				just++
			}
		}
	}
	if turned < 1000 || same < 1000 || idle < 1000 || just < 300 {
		t.Error(turned, same, idle, just)
	}
}

// P60, P61, of as many as may be, where all come at once: a tag is what all of the flow so far, and it, count by the weight; they are sent by tags, of one tag in order.
func TestAllAtOnce(t *testing.T) {
	var s source
	for i := range 300 {
		per, at := 1+s.below(api.MaxPer), s.below(1<<20)
		p := s.packets(api.MaxPackets, []int{api.MaxSize, 200, 3}[i%3], 1, []int{2, 4, 8}[i/3%3])
		weights := s.weights()
		bytes, order, want := make([]int, api.MaxFlows), make([]int, len(p)), make([]int, len(p))
		for k := range p {
			p[k].At = at
			bytes[p[k].Flow] += p[k].Size
			order[k], want[k] = k, bytes[p[k].Flow]*12/weights[p[k].Flow]
		}
		tags, err := fair.Tags(p, per, weights)
		if !slices.Equal(tags, want) || err != nil {
			t.Fatal(p, per, weights, tags, want, err)
		}
		slices.SortStableFunc(order, func(a, b int) int { return cmp.Compare(want[a], want[b]) })
		l, err := fair.Run(p, per, weights)
		if len(l) != len(p) || err != nil {
			t.Fatal(p, per, weights, l, err)
		}
		for k, x := range l {
			if x.Packet != order[k] {
				t.Fatal(p, per, weights, l, order)
			}
		}
	}
}

// stretches of l, each as long as the link is busy.
func stretches(l sents) []sents {
	var out []sents
	for _, ticks := range fifo.Busy(l) {
		n := 0
		for n < len(l) && l[n].To <= ticks[1] {
			n++
		}
		out = append(out, l[:n])
		l = l[n:]
	}
	return out
}

// wantedTag of a packet that is sent in a stretch: by those that stand in it.
func wantedTag(p packets, stretch sents, weights, tags []int, number int) int {
	x, tag := p[number], 0
	for _, y := range stretch {
		// Tags never fall in it, so that the greatest is that of the one that was sent last when x came; one that begins just then is none of these.
		if y.From < x.At || p[y.Packet].Flow == x.Flow && y.Packet < number {
			tag = max(tag, tags[y.Packet])
		}
	}
	return tag + x.Size*12/weights[x.Flow]
}

// P60 to P62, at any ticks: whatever the weights, each packet is sent once, whole, and the link is busy at the same ticks as in order; while busy, tags of a flow rise, and what is sent has tags that never fall.
func TestGreatAlways(t *testing.T) {
	var s source
	same, fell := 0, 0
	for i := range 300 {
		per := 1 + s.below([]int{1, 30, api.MaxPer}[i%3])
		p := s.packets(api.MaxPackets, api.MaxSize>>(i%4*3), 1+1<<(i%32), []int{2, 4, 8}[i/3%3])
		weights := s.weights()
		l, e1 := fair.Run(p, per, weights)
		tags, e2 := fair.Tags(p, per, weights)
		if len(l) != len(p) || len(tags) != len(p) || e1 != nil || e2 != nil {
			t.Fatal(p, per, weights, l, tags, e1, e2)
		}
		inOrder, _ := fifo.Run(p, per)
		if !slices.Equal(fifo.Busy(l), fifo.Busy(inOrder)) {
			t.Fatal(p, per, weights, l)
		}
		latest := slices.Repeat([]int{-1}, api.MaxFlows)
		last := 0
		for _, stretch := range stretches(l) {
			if first := tags[stretch[0].Packet]; first < last {
				fell++
			}
			last = 0
			var lasts [api.MaxFlows]int
			for _, x := range stretch {
				y, tag := p[x.Packet], tags[x.Packet]
				if x.From < y.At || x.To != x.From+per*y.Size || x.Packet <= latest[y.Flow] {
					t.Fatal(p, per, weights, l, x)
				}
				if tag < last || tag <= lasts[y.Flow] || tag != wantedTag(p, stretch, weights, tags, x.Packet) {
					t.Fatal(p, per, weights, l, tags, x)
				}
				if tag == last {
					same++
				}
				latest[y.Flow], last, lasts[y.Flow] = x.Packet, tag, tag
			}
		}
	}
	if same < 1000 || fell < 1000 {
		t.Error(same, fell)
	}
}

// P60: of those that have come and wait, none has a lesser tag than the one that is sent, and none of its tag is ahead of it.
func TestLeastTag(t *testing.T) {
	var s source
	waited := 0
	for i := range 300 {
		per := 1 + s.below(20)
		p := s.packets(120, []int{3, 40, api.MaxSize}[i%3], []int{2, 60, 3000}[i/3%3], 8)
		weights := s.weights()
		l, _ := fair.Run(p, per, weights)
		tags, _ := fair.Tags(p, per, weights)
		for k, x := range l {
			for _, y := range l[k+1:] {
				if p[y.Packet].At > x.From {
					continue
				}
				waited++
				if tags[y.Packet] < tags[x.Packet] || tags[y.Packet] == tags[x.Packet] && y.Packet < x.Packet {
					t.Fatal(p, per, weights, l, tags, x, y)
				}
			}
		}
	}
	if waited < 10000 {
		t.Error(waited)
	}
}

// P1, P3: whatever is handed over, a call ends, and an error has nothing beside it.
func TestWild(t *testing.T) {
	var s source
	wild := []int{-1 << 63, -1 << 59, -2, -1, 0, 1, 2, 3, 5, 8, api.MaxSize, api.MaxPer, api.MaxTime, 1 << 59, 1<<63 - 1}
	tame := []int{0, 1, 1, 1, 2, 3, 4, 6}
	well := 0
	for i := range 6000 {
		// Wild numbers alone hardly ever come to the calls' ends.
		some := func(least int) int {
			if i%4 == 0 || s.below(60) == 0 {
				return wild[s.below(len(wild))]
			}
			return max(least, tame[s.below(len(tame))])
		}
		p, weights := make(packets, s.below(4)), make([]int, 7+s.below(3))
		for i := range p {
			p[i] = api.Packet{Flow: some(0), Size: some(1), At: some(0)}
		}
		for i := range weights {
			weights[i] = some(1)
		}
		per := some(1)
		l, e1 := fair.Run(p, per, weights)
		tags, e2 := fair.Tags(p, per, weights)
		if e1 != nil && len(l)+len(tags) != 0 || e1 == nil && (len(l) != len(p) || len(tags) != len(p)) || (e1 == nil) != (e2 == nil) {
			t.Fatal(p, per, weights, l, e1, tags, e2)
		}
		if e1 == nil && len(p) > 0 {
			well++
		}
	}
	if well < 300 {
		t.Error(well)
	}
}
