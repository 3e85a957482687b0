package audit_test

import (
	"slices"
	"testing"

	"floodgate/api"
	"floodgate/audit"
	"floodgate/fair"
	"floodgate/fifo"
	"floodgate/link"
	"floodgate/rank"
	"floodgate/round"
)

// source of numbers that look like none in order, the same ones in each run.
type source uint32

func (s *source) below(n int) int {
	*s = *s*1664525 + 1013904223
	return int(*s>>8) % n
}

func (s *source) packets(most, sizes, gaps, flows int) packets {
	p := make(packets, s.below(most+1))
	at := s.below(gaps)
	for i := range p {
		p[i] = api.Packet{Flow: s.below(flows), Size: 1 + s.below(sizes), At: at}
		at += max(0, s.below(2*gaps)-gaps/2)
	}
	return p
}

// numbers of flows, from least up to most.
func (s *source) numbers(least, most int) []int {
	out := make([]int, api.MaxFlows)
	for i := range out {
		out[i] = least + s.below(most-least+1)
	}
	return out
}

// anyFlow is a queue that picks the first packet of any flow that waits.
func (s *source) anyFlow(p packets) link.Queue {
	var queues [api.MaxFlows][]int
	waiting := 0
	return link.Rule{
		Comes: func(number int) {
			queues[p[number].Flow] = append(queues[p[number].Flow], number)
			waiting++
		},
		Picks: func() int {
			flow := s.below(api.MaxFlows)
			for len(queues[flow]) == 0 {
				flow = s.below(api.MaxFlows)
			}
			number := queues[flow][0]
			queues[flow] = queues[flow][1:]
			waiting--
			return number
		},
		Rests: func() int { return waiting },
	}
}

// links of all kinds, and of any other that lets no packet pass one of its flow.
var links = []struct {
	name string
	run  func(s *source, p packets, per int) (sents, error)
}{
	{"in order", func(s *source, p packets, per int) (sents, error) { return fifo.Run(p, per) }},
	{"by ranks", func(s *source, p packets, per int) (sents, error) { return rank.Run(p, per, s.numbers(0, 100)) }},
	{"by deadlines", func(s *source, p packets, per int) (sents, error) { return rank.Deadlines(p, per, s.numbers(0, 300)) }},
	{"round by round", func(s *source, p packets, per int) (sents, error) {
		return round.Run(p, per, s.numbers(1, api.MaxQuantum>>s.below(11)))
	}},
	{"by tags", func(s *source, p packets, per int) (sents, error) {
		weights := s.numbers(0, 5)
		for i, n := range weights {
			weights[i] = []int{1, 2, 3, 4, 6, 12}[n]
		}
		return fair.Run(p, per, weights)
	}},
	{"any", func(s *source, p packets, per int) (sents, error) { return link.Send(p, per, s.anyFlow(p)), nil }},
}

// allBytes that are through behind from, up to to, of all flows together.
func allBytes(t *testing.T, p packets, l sents, from, to int) int {
	sum := 0
	for flow := range api.MaxFlows {
		n, err := audit.Bytes(p, l, flow, from, to)
		if err != nil {
			t.Fatal(p, l, flow, from, to, err)
		}
		sum += n
	}
	return sum
}

// P70, P72: whatever the link, what it sends is what one may do; it is busy at the same ticks as in order, which are just as many as the bytes need that are through by then.
func TestLinksAlways(t *testing.T) {
	var s source
	turned, idle := map[string]int{}, 0
	for i := range 400 {
		per := 1 + s.below([]int{1, 30, api.MaxPer}[i%3])
		p := s.packets(api.MaxPackets, api.MaxSize>>(i%4*3), 1+1<<(i%32), []int{2, 4, 8}[i/3%3])
		inOrder, _ := fifo.Run(p, per)
		busy := fifo.Busy(inOrder)
		idle += max(0, len(busy)-1)
		for _, k := range links {
			l, err := k.run(&s, p, per)
			if err != nil {
				t.Fatal(k.name, err)
			}
			if err := audit.Check(p, per, l); err != nil {
				t.Fatal(k.name, p, per, l, err)
			}
			if !slices.Equal(fifo.Busy(l), busy) {
				t.Fatal(k.name, p, per, l, busy)
			}
			for _, ticks := range busy {
				if allBytes(t, p, l, ticks[0], ticks[1])*per != ticks[1]-ticks[0] {
					t.Fatal(k.name, p, per, l, ticks)
				}
			}
			if !slices.Equal(l, inOrder) {
				turned[k.name]++
			}
		}
	}
	for _, k := range links[1:] {
		if turned[k.name] < 150 {
			t.Error(k.name, turned[k.name])
		}
	}
	if idle < 1000 {
		t.Error(idle)
	}
}

// mays are all lists that a link may send, where it goes tick by tick, and picks, whenever it is free, the first packet of any flow that has come.
func mays(p packets, per, tick int, ahead sents) []sents {
	if len(ahead) == len(p) {
		return []sents{slices.Clone(ahead)}
	}
	var (
		out  []sents
		seen [api.MaxFlows]bool
	)
	for i, x := range p {
		isSent := slices.ContainsFunc(ahead, func(y api.Sent) bool { return y.Packet == i })
		if isSent || seen[x.Flow] || x.At > tick {
			continue
		}
		seen[x.Flow] = true
		through := tick + per*x.Size
		out = append(out, mays(p, per, through, append(slices.Clip(ahead), api.Sent{Packet: i, From: tick, To: through}))...)
	}
	if len(out) == 0 {
		return mays(p, per, tick+1, ahead)
	}
	return out
}

// eachList of so many out of these.
func eachList(some sents, length int, do func(l sents)) {
	var grow func(l sents)
	grow = func(l sents) {
		if len(l) == length {
			do(l)
			return
		}
		for _, x := range some {
			grow(append(l, x))
		}
	}
	grow(make(sents, 0, length))
}

// P70, P72, of a few packets, and all lists of ticks that are not far: those are well that some link sends, and no others; in all of them it is busy at the same ticks.
func TestAllLists(t *testing.T) {
	var s source
	wells, wrongs := 0, 0
	for i := range 60 {
		per := 1 + i%2
		p := s.packets(3, 2, 2, 1+i%3)
		var some sents
		for from := range 14 {
			for number, x := range p {
				some = append(some, api.Sent{Packet: number, From: from, To: from + per*x.Size})
			}
		}
		may := map[[3]api.Sent]int{}
		for _, l := range mays(p, per, 0, nil) {
			may[[3]api.Sent(append(l, make(sents, 3-len(l))...))]++
		}
		inOrder, _ := fifo.Run(p, per)
		busy := fifo.Busy(inOrder)
		found := 0
		eachList(some, len(p), func(l sents) {
			err := audit.Check(p, per, l)
			key := [3]api.Sent{}
			copy(key[:], l)
			if (err == nil) != (may[key] > 0) {
				t.Fatal(p, per, l, err)
			}
			if err != nil {
				wrongs++
				return
			}
			found++
			if !slices.Equal(fifo.Busy(l), busy) {
				t.Fatal(p, per, l, busy)
			}
		})
		if found != len(may) {
			t.Fatal(p, per, found, len(may))
		}
		wells += found
	}
	if wells < 60 || wrongs < 100000 {
		t.Error(wells, wrongs)
	}
}

// wanted error of what was sent, and its place, by the document's words.
func wanted(p packets, per int, l sents) (error, int) {
	// place at which a packet is sent; behind all if it never is.
	place := func(number int) int {
		at := slices.IndexFunc(l, func(x api.Sent) bool { return x.Packet == number })
		if at < 0 {
			return len(l)
		}
		return at
	}
	through := 0
	for i, x := range l {
		if x.Packet < 0 || x.Packet > len(p)-1 || place(x.Packet) < i {
			return api.ErrNone, i
		}
		y := p[x.Packet]
		if x.From < y.At || x.From < through {
			return api.ErrOld, i
		}
		if x.To-x.From != per*y.Size {
			return api.ErrShape, i
		}
		for n, z := range p {
			if x.From > through && place(n) >= i && z.At < x.From {
				return api.ErrIdle, i
			}
		}
		for n, z := range p[:x.Packet] {
			if z.Flow == y.Flow && place(n) > i {
				return api.ErrTurn, i
			}
		}
		through = x.To
	}
	for n := range p {
		if place(n) == len(l) {
			return api.ErrNone, bare
		}
	}
	return nil, bare
}

// spoil what was sent, in one way.
func (s *source) spoil(p packets, l sents) sents {
	if len(l) == 0 {
		return sent(s.below(3)-1, 0, 1)
	}
	i, k, by := s.below(len(l)), s.below(len(l)), s.below(5)-2
	switch s.below(9) {
	case 0:
		l[i].Packet = s.below(len(p)+2) - 1
	case 1:
		l[i].From += by
	case 2:
		l[i].To += by
	case 3:
		l[i].From += by
		l[i].To += by
	case 4: // all from one on
		for n := range l[i:] {
			l[i+n].From += by
			l[i+n].To += by
		}
	case 5:
		l[i], l[k] = l[k], l[i]
	case 6:
		l[i].Packet, l[k].Packet = l[k].Packet, l[i].Packet
	case 7:
		l = slices.Delete(l, i, i+1)
	case 8:
		l = slices.Insert(l, i, l[k])
	}
	return l
}

// again sends packets as they stand in l, as soon as may be: what comes of an order that is none of a link's.
func again(p packets, per int, l sents) sents {
	out, free := make(sents, len(l)), 0
	for i, x := range l {
		if x.Packet < 0 || x.Packet >= len(p) {
			out[i] = x
			continue
		}
		y := p[x.Packet]
		from := max(free, y.At)
		free = from + per*y.Size
		out[i] = api.Sent{Packet: x.Packet, From: from, To: free}
	}
	return out
}

// P70: as by its words, of what was spoilt in a few ways.
func TestCheckAlways(t *testing.T) {
	var s source
	met := map[error]int{}
	never := 0
	for i := range 20000 {
		per := 1 + s.below(4)
		p := s.packets(12, []int{1, 3, 9}[i%3], []int{2, 10, 40}[i/3%3], []int{2, 4, 8}[i/9%3])
		l, _ := links[i%len(links)].run(&s, p, per)
		for range s.below(3) {
			l = s.spoil(p, l)
		}
		if s.below(2) == 0 {
			l = again(p, per, l)
		}
		want, at := wanted(p, per, l)
		if err := audit.Check(p, per, l); !isFault(err, want, at) {
			t.Fatal(p, per, l, err, want, at)
		}
		met[want]++
		if want != nil && at == bare {
			never++
		}
	}
	for _, err := range []error{nil, api.ErrNone, api.ErrOld, api.ErrShape, api.ErrIdle, api.ErrTurn} {
		if met[err] < 200 {
			t.Error(err, met[err])
		}
	}
	if never < 200 {
		t.Error(never)
	}
}

// P71: as by its words; of two times that meet, both together; of all ticks, all that came.
func TestBytesAlways(t *testing.T) {
	var s source
	some := 0
	for i := range 3000 {
		per := 1 + s.below(4)
		p := s.packets(30, []int{1, 9, 40}[i%3], []int{2, 10, 40}[i/3%3], []int{2, 4, 8}[i/9%3])
		l, _ := links[i%len(links)].run(&s, p, per)
		last := 1
		if len(l) > 0 {
			last = l[len(l)-1].To + 1
		}
		flow, from, mid, to := s.below(api.MaxFlows), s.below(last), s.below(last), s.below(last+3)
		want, came := 0, 0
		for _, x := range p {
			if x.Flow == flow {
				came += x.Size
			}
		}
		for tick := from + 1; tick <= to; tick++ {
			for _, x := range l {
				if x.To == tick && p[x.Packet].Flow == flow {
					want += p[x.Packet].Size
				}
			}
		}
		n, err := audit.Bytes(p, l, flow, from, to)
		if n != want || err != nil {
			t.Fatal(p, l, flow, from, to, n, want, err)
		}
		if n > 0 {
			some++
		}
		if all, err := audit.Bytes(p, l, flow, 0, last); all != came || err != nil {
			t.Fatal(p, l, flow, all, came, err)
		}
		if from <= mid && mid <= to {
			a, _ := audit.Bytes(p, l, flow, from, mid)
			b, _ := audit.Bytes(p, l, flow, mid, to)
			if a+b != n {
				t.Fatal(p, l, flow, from, mid, to, a, b, n)
			}
		}
	}
	if some < 300 {
		t.Error(some)
	}
}

// P1, P3: whatever is handed over, a call ends; an error has nothing beside it.
func TestWild(t *testing.T) {
	var s source
	wild := []int{low, -1 << 59, -2, -1, 0, 1, 2, 3, 5, 8, api.MaxSize, api.MaxPer, api.MaxTime, 1 << 59, high}
	tame := []int{0, 0, 0, 1, 1, 2, 3}
	wells, sums := 0, 0
	for i := range 50000 {
		// Wild numbers alone hardly ever come to the calls' ends.
		some := func(least int) int {
			if i%4 == 0 || s.below(60) == 0 {
				return wild[s.below(len(wild))]
			}
			return max(least, tame[s.below(len(tame))])
		}
		p, l := make(packets, s.below(3)), make(sents, s.below(4))
		for i := range p {
			p[i] = api.Packet{Flow: some(0), Size: some(1), At: some(0)}
		}
		for i := range l {
			l[i] = api.Sent{Packet: some(0), From: some(0), To: some(0)}
		}
		if err := audit.Check(p, some(1), l); err == nil && len(p) > 0 {
			wells++
			if len(l) != len(p) {
				t.Fatal(p, l)
			}
		}
		n, err := audit.Bytes(p, l, some(0), some(0), some(0))
		if err != nil && n != 0 || n < 0 {
			t.Fatal(p, l, n, err)
		}
		if n > 0 {
			sums++
		}
	}
	if wells < 30 || sums < 150 {
		t.Error(wells, sums)
	}
}
