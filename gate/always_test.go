package gate_test

import (
	"slices"
	"testing"

	"floodgate/api"
	"floodgate/audit"
	"floodgate/bucket"
	"floodgate/fair"
	"floodgate/fifo"
	"floodgate/gate"
	"floodgate/rank"
	"floodgate/round"
)

// source of numbers that look like none in order, the same ones in each run.
type source uint32

func (s *source) below(n int) int {
	*s = *s*1664525 + 1013904223
	return int(*s>>8) % n
}

func (s *source) packets(most, sizes, gaps, flows int) packets {
	p := make(packets, s.below(most+1))
	at := s.below(gaps)
	for i := range p {
		p[i] = api.Packet{Flow: s.below(flows), Size: 1 + s.below(sizes), At: at}
		at += max(0, s.below(2*gaps)-gaps/2)
	}
	return p
}

// curve of up to most lines, that lets packets of these sizes through.
func (s *source) curve(most, sizes, bursts, rates int) lines {
	l := make(lines, 1+s.below(most))
	for i := range l {
		l[i] = api.Line{Burst: min(api.MaxBurst, sizes+s.below(bursts)), Rate: 1 + s.below(rates)}
	}
	return l
}

// numbers of a kind.
func (s *source) numbers(kind string) []int {
	if kind == "fifo" {
		return nil
	}
	out := make([]int, api.MaxFlows)
	for i := range out {
		switch kind {
		case "rank":
			out[i] = s.below(101)
		case "due":
			out[i] = s.below(300)
		case "round":
			out[i] = 1 + s.below(api.MaxQuantum>>s.below(11))
		case "fair":
			out[i] = []int{1, 2, 3, 4, 6, 12}[s.below(6)]
		}
	}
	return out
}

// sendBy the rule of a kind.
func sendBy(g gate.Gate, p packets) (sents, error) {
	switch g.Kind {
	case "rank":
		return rank.Run(p, g.Per, g.Numbers)
	case "due":
		return rank.Deadlines(p, g.Per, g.Numbers)
	case "round":
		return round.Run(p, g.Per, g.Numbers)
	case "fair":
		return fair.Run(p, g.Per, g.Numbers)
	}
	return fifo.Run(p, g.Per)
}

// shaper of a flow that goes tick by tick: of each line of its curve, thousandths that its bucket has.
type shaper struct {
	curve lines
	has   []int
}

func (s *shaper) fill() {
	if s.has == nil {
		for _, x := range s.curve {
			s.has = append(s.has, x.Burst*1000)
		}
		return
	}
	for i, x := range s.curve {
		s.has[i] = min(x.Burst*1000, s.has[i]+x.Rate)
	}
}

func (s *shaper) pass(size int) bool {
	for _, n := range s.has {
		if n < size*1000 {
			return false
		}
	}
	for i := range s.has {
		s.has[i] -= size * 1000
	}
	return true
}

// never tells whether so many bytes can't pass any more.
func (s *shaper) never(size int) bool {
	for i, x := range s.curve {
		if x.Burst < size || x.Rate == 0 && s.has[i] < size*1000 {
			return true
		}
	}
	return false
}

// tickByTick are the packets as they come to the link, by the document's words: at each tick, those that leave, by their numbers. If one never leaves: its number, else -1.
func tickByTick(curves []lines, p packets) (packets, int) {
	shapers := make([]shaper, api.MaxFlows)
	for flow := range shapers {
		shapers[flow].curve = curves[flow]
	}
	var out packets
	gone, stuck := make([]bool, len(p)), make([]int, api.MaxFlows)
	for tick, left := 0, len(p); left > 0; tick++ {
		var waits [api.MaxFlows]bool
		for flow := range shapers {
			shapers[flow].fill()
		}
		for i, x := range p {
			if gone[i] || waits[x.Flow] || x.At > tick {
				continue
			}
			switch k := &shapers[x.Flow]; {
			case stuck[x.Flow] > 0:
				gone[i] = true // it will never leave, either
				left--
			case k.pass(x.Size):
				out = append(out, api.Packet{Flow: x.Flow, Size: x.Size, At: tick})
				gone[i] = true
				left--
			case k.never(x.Size):
				stuck[x.Flow] = i + 1
				gone[i] = true
				left--
			default:
				waits[x.Flow] = true
			}
		}
	}
	first := -1
	for _, n := range stuck {
		if n > 0 && (first < 0 || n-1 < first) {
			first = n - 1
		}
	}
	return out, first
}

// P81: as by its words, of a few packets that come soon.
func TestRunAlways(t *testing.T) {
	var s source
	delayed, passed, stuck, met, turned := 0, 0, 0, 0, map[string]int{}
	for i := range 5000 {
		kind := kinds[i%len(kinds)]
		sizes := []int{1, 4, 12}[i/5%3]
		g := gate.Gate{Curves: make([]lines, api.MaxFlows), Kind: kind, Per: 1 + s.below(4), Numbers: s.numbers(kind)}
		for flow := range g.Curves {
			if s.below(3) > 0 {
				g.Curves[flow] = s.curve(3, sizes, 9, 900)
			}
			if l := g.Curves[flow]; len(l) > 0 && s.below(12) == 0 {
				l[s.below(len(l))].Rate = 0
			}
			if l := g.Curves[flow]; len(l) > 0 && s.below(40) == 0 {
				l[0].Burst = max(1, sizes-1)
			}
		}
		p := s.packets(25, sizes, []int{2, 10, 30}[i/15%3], []int{2, 4, 8}[i/45%3])
		want, first := tickByTick(g.Curves, p)
		q, l, err := gate.Run(g, p)
		if first >= 0 {
			stuck++
			if len(q) != 0 || len(l) != 0 || !isFault(err, api.ErrNone, first) {
				t.Fatal(g, p, q, l, err, first)
			}
			continue
		}
		if !slices.Equal(q, want) || err != nil {
			t.Fatal(g, p, q, want, err)
		}
		if sent, err := sendBy(g, want); !slices.Equal(l, sent) || err != nil {
			t.Fatal(g, p, l, sent, err)
		}
		for k := range q {
			if q[k].At != p[k].At {
				delayed++
			}
			if q[k].Flow != p[k].Flow {
				passed++
			}
			if k > 0 && q[k].At == q[k-1].At && q[k].Flow != q[k-1].Flow {
				met++
			}
		}
		if ordered, _ := fifo.Run(q, g.Per); !slices.Equal(l, ordered) {
			turned[kind]++
		}
	}
	for _, kind := range kinds[1:] {
		if turned[kind] < 200 {
			t.Error(kind, turned[kind])
		}
	}
	if delayed < 3000 || passed < 3000 || stuck < 300 || met < 1000 {
		t.Error(delayed, passed, stuck, met)
	}
}

// ofFlow are this flow's packets, in order.
func ofFlow(p packets, flow int) packets {
	return slices.DeleteFunc(slices.Clone(p), func(x api.Packet) bool { return x.Flow != flow })
}

// P81, at any ticks, of any sizes: each flow's packets come to the link as its shaper lets them, and fit its curve; what is sent is what a link may do; what has come through a gate comes through it as it is.
func TestGreatAlways(t *testing.T) {
	var s source
	delayed := 0
	for i := range 300 {
		kind := kinds[i%len(kinds)]
		sizes := []int{1, 40, api.MaxSize}[i/5%3]
		g := gate.Gate{Curves: make([]lines, api.MaxFlows), Kind: kind, Per: 1 + s.below(api.MaxPer), Numbers: s.numbers(kind)}
		for flow := range g.Curves {
			if s.below(4) > 0 {
				g.Curves[flow] = s.curve(api.MaxLines, sizes, 1+3*sizes, api.MaxRate>>(i%17))
			}
		}
		p := s.packets(api.MaxPackets, sizes, 1+1<<(i%30), []int{2, 4, 8}[i/15%3])
		q, l, err := gate.Run(g, p)
		if len(q) != len(p) || err != nil {
			t.Fatal(g, p, q, err)
		}
		if err := audit.Check(q, g.Per, l); err != nil {
			t.Fatal(g, q, l, err)
		}
		for flow, c := range g.Curves {
			want := ofFlow(p, flow)
			if len(c) > 0 {
				want, _ = bucket.Shape(c, want)
				if is, err := bucket.Fits(c, ofFlow(q, flow)); !is || err != nil {
					t.Fatal(g, q, flow, err)
				}
			}
			if got := ofFlow(q, flow); !slices.Equal(got, want) {
				t.Fatal(g, p, flow, got, want)
			}
		}
		if !slices.Equal(p, q) {
			delayed++
		}
		if again, sent, err := gate.Run(g, q); !slices.Equal(again, q) || !slices.Equal(sent, l) || err != nil {
			t.Fatal(g, q, l, again, sent, err)
		}
	}
	if delayed < 150 {
		t.Error(delayed)
	}
}

// sums of a line of each of these curves, in all choices.
func sums(curves []lines) lines {
	out := line(0, 0)
	for _, l := range curves {
		var more lines
		for _, x := range out {
			for _, y := range l {
				more = append(more, api.Line{Burst: x.Burst + y.Burst, Rate: x.Rate + y.Rate})
			}
		}
		out = more
	}
	return out
}

// bytesAt a tick that may have come, by all of the sums.
func bytesAt(l lines, tick int) int {
	least := high
	for _, x := range l {
		least = min(least, x.Burst+x.Rate*tick/1000)
	}
	return least
}

// P82: as by its words, tick by tick.
func TestBoundAlways(t *testing.T) {
	const far = 4000
	var s source
	for i := range 1500 {
		kind := kinds[i%2*(1+i/2%4)]
		n, per := 1+s.below(3), 1+s.below(4)
		g := gate.Gate{Curves: make([]lines, api.MaxFlows), Kind: kind, Per: per, Numbers: s.numbers(kind)}
		for flow := range g.Curves {
			if flow != n && s.below(5) > 0 || flow < n {
				g.Curves[flow] = s.curve(2, 1, 20, 900/per/n)
			}
		}
		l := sums(g.Curves[:n])
		want, ok := 0, false
		for tick := range far {
			if rest := per * bytesAt(l, tick); kind == "fifo" {
				want, ok = max(want, rest-tick), true
			} else if tick > 0 && rest <= tick {
				want, ok = tick, true
				break
			}
		}
		if !ok {
			t.Fatal(g, "that is not far enough")
		}
		bound, err := gate.Bound(g)
		if bound != want || err != nil {
			t.Fatal(g, bound, want, err)
		}
		for flow := range n { // until more comes than the link sends
			for line := range g.Curves[flow] {
				g.Curves[flow][line].Rate += 1000
			}
		}
		if bound, err := gate.Bound(g); bound != 0 || err != api.ErrNone {
			t.Fatal(g, bound, err)
		}
	}
}

// greedy packets: all come at once, so that flows send whatever their curves let them.
func greedy(p packets) packets {
	out := slices.Clone(p)
	for i := range out {
		out[i].At = p[0].At
	}
	return out
}

// P83: whatever the kind, no packet of flows that have curves is longer at the link than the bound.
func TestNeverLonger(t *testing.T) {
	var s source
	bounded, just, near := map[string]int{}, map[string]int{}, map[string]int{}
	for i := range 4000 {
		kind := kinds[i%len(kinds)]
		sizes := []int{1, 3, 40, api.MaxSize}[i/5%4]
		n, per := 1+s.below(4), 1+s.below([]int{1, 4, api.MaxPer}[i/20%3])
		g := gate.Gate{Curves: make([]lines, api.MaxFlows), Kind: kind, Per: per, Numbers: s.numbers(kind)}
		for flow := range n {
			g.Curves[flow] = s.curve(3, sizes, 1+2*sizes, max(1, 1000/per/n))
			if s.below(2) == 0 { // one that brings more than the link sends, for a while
				g.Curves[flow] = append(g.Curves[flow], api.Line{Burst: sizes, Rate: 1 + s.below(20000/per)})
			}
		}
		bound, err := gate.Bound(g)
		if err != nil {
			continue // too many lines, or more than the link sends
		}
		bounded[kind]++
		p := s.packets(api.MaxPackets, sizes, 1+1<<(i%20), n)
		for k, some := range []packets{p, greedy(p), greedy(p[len(p)/2:])} {
			q, l, err := gate.Run(g, some)
			if err != nil {
				t.Fatal(g, some, err)
			}
			delay := longest(q, l)
			if delay > bound {
				t.Fatal(g, k, q, l, delay, bound)
			}
			if delay == bound {
				just[kind]++
			}
			if 4*delay >= 3*bound {
				near[kind]++
			}
		}
	}
	for _, kind := range kinds {
		if bounded[kind] < 300 || just[kind] < 10 || near[kind] < 100 {
			t.Error(kind, bounded[kind], just[kind], near[kind])
		}
	}
}

// P2, P4: what is handed over is only read, also behind its length; what is answered is new, and the same each time.
func TestMemory(t *testing.T) {
	for _, kind := range kinds {
		allCurves := append(flows(line(5, 100, -1, -1)[:1], nil, line(3, 200, -1, -1)[:1]), line(-1, -1))
		allNumbers := append(all(1), -7, -7)
		all := of(0, 5, 1, 0, 1, 2, 1, 9, 3, 2, 3, 11, 9, 9, -9)
		g := gate.Gate{Curves: allCurves[:api.MaxFlows], Kind: kind, Per: 2, Numbers: allNumbers[:api.MaxFlows]}
		if kind == "fifo" {
			g.Numbers = allNumbers[:0]
		}
		p := all[:4]
		before, numbersBefore := slices.Clone(all), slices.Clone(allNumbers)
		for range 3 {
			if err := gate.Check(g); err != nil {
				t.Fatal(kind, err)
			}
			q, l, err := gate.Run(g, p)
			if !slices.Equal(q, of(0, 5, 1, 1, 9, 3, 0, 1, 11, 2, 3, 11)) || len(l) != 4 || err != nil {
				t.Fatal(kind, q, l, err)
			}
			if want, _ := sendBy(g, q); !slices.Equal(l, want) {
				t.Fatal(kind, l, want)
			}
			if bound, err := gate.Bound(g); bound == 0 || err != nil {
				t.Fatal(kind, bound, err)
			}
			clear(q[:cap(q)])
			clear(l[:cap(l)])
			if !slices.Equal(all, before) || !slices.Equal(allNumbers, numbersBefore) {
				t.Fatal(kind, all, allNumbers)
			}
			for flow, want := range []lines{line(5, 100, -1, -1), nil, line(3, 200, -1, -1), nil, nil, nil, nil, nil, line(-1, -1)} {
				if l := allCurves[flow]; !slices.Equal(l[:cap(l)], want) {
					t.Fatal(kind, flow, l[:cap(l)])
				}
			}
		}
	}
}

// P4: an answer does not change with what was handed over, nor that with an answer: also where no packet is delayed.
func TestAnswersStay(t *testing.T) {
	for _, g := range []gate.Gate{inOrder(2), inOrder(2, line(9, 9), line(9, 9))} {
		p := of(0, 3, 5, 1, 1, 5)
		q, l, _ := gate.Run(g, p)
		clear(p)
		clear(g.Curves)
		if !slices.Equal(q, of(0, 3, 5, 1, 1, 5)) || !slices.Equal(l, sent(0, 5, 11, 1, 11, 13)) {
			t.Error(q, l)
		}
	}
}

// P1, P3: whatever is handed over, a call ends; an error has nothing beside it.
func TestWild(t *testing.T) {
	var s source
	wild := []int{low, -1 << 59, -2, -1, 0, 1, 2, 3, 5, 8, api.MaxSize, api.MaxPer, api.MaxBurst, api.MaxRate, api.MaxTime, 1 << 59, high}
	tame := []int{0, 1, 1, 1, 2, 3, 4, 6}
	runs, bounds := 0, 0
	for i := range 30000 {
		// Wild numbers alone hardly ever come to the calls' ends.
		some := func(least int) int {
			if i%8 == 0 || s.below(150) == 0 {
				return wild[s.below(len(wild))]
			}
			return max(least, tame[s.below(len(tame))])
		}
		g := gate.Gate{Curves: make([]lines, api.MaxFlows), Kind: append(kinds, "what")[s.below(6)], Per: some(1), Numbers: make([]int, api.MaxFlows)}
		if s.below(20) == 0 {
			g.Curves = make([]lines, s.below(12))
		}
		if s.below(20) == 0 || g.Kind == "fifo" {
			g.Numbers = make([]int, s.below(12)/4*4)
		}
		for flow := range g.Curves {
			g.Curves[flow] = make(lines, s.below(3+s.below(2)*s.below(3)*s.below(3)))
			for k := range g.Curves[flow] {
				g.Curves[flow][k] = api.Line{Burst: some(1), Rate: some(0)}
			}
		}
		for flow := range g.Numbers {
			g.Numbers[flow] = some(1)
		}
		p := make(packets, s.below(4))
		for k := range p {
			p[k] = api.Packet{Flow: some(0), Size: some(1), At: some(0)}
		}
		wrong := gate.Check(g)
		q, l, e1 := gate.Run(g, p)
		bound, e2 := gate.Bound(g)
		if wrong != nil && (e1 == nil || e2 == nil) || e1 != nil && len(q)+len(l) != 0 || e2 != nil && bound != 0 {
			t.Fatal(g, p, wrong, q, l, e1, bound, e2)
		}
		if e1 == nil && (len(q) != len(p) || len(l) != len(p)) || e2 == nil && bound < 1 {
			t.Fatal(g, p, q, l, bound)
		}
		if e1 == nil && len(p) > 0 {
			runs++
		}
		if e2 == nil {
			bounds++
		}
	}
	if runs < 300 || bounds < 300 {
		t.Error(runs, bounds)
	}
}
