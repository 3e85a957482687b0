package fifo_test

import (
	"slices"
	"testing"

	"floodgate/api"
	"floodgate/fifo"
)

// source of numbers that look like none in order, the same ones in each run.
type source uint32

func (s *source) below(n int) int {
	*s = *s*1664525 + 1013904223
	return int(*s>>8) % n
}

func (s *source) packets(most, sizes, gaps int) packets {
	p := make(packets, s.below(most+1))
	at := s.below(gaps)
	for i := range p {
		p[i] = api.Packet{Flow: s.below(api.MaxFlows), Size: 1 + s.below(sizes), At: at}
		at += max(0, s.below(2*gaps)-gaps/2)
	}
	return p
}

// tickByTick is what a link sends by the document's words; and the ticks in which it was busy.
func tickByTick(p packets, per int) (sents, []int) {
	var (
		out     sents
		busy    []int
		waiting []int
		left    int // ticks that the packet that is being sent still needs
	)
	for tick := 0; len(out) < len(p) || left > 0; tick++ {
		for i, x := range p {
			if x.At == tick {
				waiting = append(waiting, i)
			}
		}
		if left == 0 && len(waiting) > 0 {
			left = per * p[waiting[0]].Size
			out = append(out, api.Sent{Packet: waiting[0], From: tick})
			waiting = waiting[1:]
		}
		if left > 0 {
			busy = append(busy, tick)
			left--
			out[len(out)-1].To = tick + 1
		}
	}
	return out, busy
}

// stretches of ticks that follow each other.
func stretches(busy []int) ticks {
	var out ticks
	for i, tick := range busy {
		if i == 0 || busy[i-1] != tick-1 {
			out = append(out, [2]int{tick, tick})
		}
		out[len(out)-1][1] = tick + 1
	}
	return out
}

// P30, P31: as by their words.
func TestAlways(t *testing.T) {
	var s source
	idle, waits := 0, 0
	for i := range 1500 {
		per := 1 + s.below(4)
		p := s.packets(20, []int{1, 3, 9}[i%3], []int{2, 10, 40}[i/3%3])
		want, busy := tickByTick(p, per)
		l, err := fifo.Run(p, per)
		if !slices.Equal(l, want) || err != nil {
			t.Fatal(p, per, l, want, err)
		}
		b := fifo.Busy(l)
		if !slices.Equal(b, stretches(busy)) {
			t.Fatal(p, per, l, b)
		}
		d, err := fifo.Delays(p, l)
		if len(d) != len(l) || err != nil {
			t.Fatal(p, per, l, d, err)
		}
		for k, x := range l {
			if d[k] != x.To-p[k].At || d[k] < per*p[k].Size {
				t.Fatal(p, per, l, d)
			}
			if x.From > p[k].At {
				waits++
			}
		}
		idle += max(0, len(b)-1)
	}
	if idle < 1000 || waits < 1000 {
		t.Error(idle, waits)
	}
}

// throughAt is when a packet, and all ahead of it, are through: of what came from some one on, nothing can be through sooner than all of it needs, and for one of them it is just so.
func throughAt(p packets, per, number int) int {
	through, need := 0, 0
	for i := number; i >= 0; i-- {
		need += per * p[i].Size
		through = max(through, p[i].At+need)
	}
	return through
}

// neverIdle tells whether no packet that had come was let wait while the link had nothing to do.
func neverIdle(p packets, l sents) bool {
	free := 0
	for i, x := range l {
		for _, y := range l[i:] {
			if x.From > free && p[y.Packet].At < x.From {
				return false
			}
		}
		free = x.To
	}
	return true
}

// P30: a link is never idle while one waits, and sends one at a time, whole. P32: a packet is through when all that came ahead of it, and it, are.
func TestGreatAlways(t *testing.T) {
	var s source
	for i := range 200 {
		per := 1 + s.below([]int{1, 30, api.MaxPer}[i%3])
		p := s.packets(api.MaxPackets, api.MaxSize>>(i%4*3), 1+1<<(i%32))
		l, err := fifo.Run(p, per)
		if len(l) != len(p) || err != nil {
			t.Fatal(p, per, l, err)
		}
		free := 0
		for k, x := range l {
			if x.Packet != k || x.From < free || x.From < p[k].At || x.To != x.From+per*p[k].Size {
				t.Fatal(p, per, l, k)
			}
			if x.To != throughAt(p, per, k) {
				t.Fatal(p, per, l, k)
			}
			free = x.To
		}
		if !neverIdle(p, l) {
			t.Fatal(p, per, l)
		}
	}
}

// P1, P3: whatever is handed over, a call ends, and an error has nothing beside it.
func TestWild(t *testing.T) {
	var s source
	numbers := []int{-1 << 63, -1 << 59, -2, -1, 0, 1, 2, 3, 5, 8, api.MaxSize, api.MaxPer, api.MaxTime, 1 << 59, 1<<63 - 1}
	some := func() int { return numbers[s.below(len(numbers))] }
	for range 3000 {
		p, l := make(packets, s.below(6)), make(sents, s.below(6))
		for i := range p {
			p[i] = api.Packet{Flow: some(), Size: some(), At: some()}
		}
		for i := range l {
			l[i] = api.Sent{Packet: some(), From: some(), To: some()}
		}
		if x, err := fifo.Run(p, some()); err != nil && len(x) != 0 {
			t.Fatal(p, x, err)
		}
		if d, err := fifo.Delays(p, l); err != nil && len(d) != 0 || err == nil && len(d) != len(l) {
			t.Fatal(p, l, d, err)
		}
		if b := fifo.Busy(l); len(b) > len(l) || (len(b) == 0) != (len(l) == 0) {
			t.Fatal(l, b)
		}
	}
}
