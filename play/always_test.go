package play_test

import (
	"errors"
	"slices"
	"testing"

	"floodgate/api"
	"floodgate/audit"
	"floodgate/bucket"
	"floodgate/fifo"
	"floodgate/gate"
	"floodgate/play"
)

// kinds of links.
var kinds = []string{"fifo", "rank", "due", "round", "fair"}

// source of numbers that look like none in order, the same ones in each run.
type source uint32

func (s *source) below(n int) int {
	*s = *s*1664525 + 1013904223
	return int(*s>>8) % n
}

// script of up to most numbers, some of them below 0, some of them great.
func (s *source) script(most int) []int {
	out := make([]int, s.below(most+1))
	for i := range out {
		switch s.below(8) {
		case 0:
			out[i] = -1 - s.below(9000)
		case 1:
			out[i] = s.below(1<<24)<<39 | s.below(1<<24)<<15 | s.below(1<<15)
		case 2:
			out[i] = []int{low, -1, 0, 6299, 6300, high}[s.below(6)]
		default:
			out[i] = s.below(9000)
		}
	}
	return out
}

// numbers of a kind.
func (s *source) numbers(kind string) []int {
	if kind == "fifo" {
		return nil
	}
	out := make([]int, api.MaxFlows)
	for i := range out {
		switch kind {
		case "rank":
			out[i] = s.below(101)
		case "due":
			out[i] = s.below(3000)
		case "round":
			out[i] = 1 + s.below(api.MaxQuantum>>s.below(11))
		case "fair":
			out[i] = []int{1, 2, 3, 4, 6, 12}[s.below(6)]
		}
	}
	return out
}

// gate of a kind; of some flows there are curves. Not all curves let all packets through.
func (s *source) gate(kind string) gate.Gate {
	g := gate.Gate{Curves: make([][]api.Line, api.MaxFlows), Kind: kind, Per: 1 + s.below([]int{1, 9, api.MaxPer}[s.below(3)]), Numbers: s.numbers(kind)}
	for flow := range g.Curves {
		for range s.below(3) {
			x := api.Line{Burst: 300 + s.below(3000), Rate: 1 + s.below(api.MaxRate>>s.below(17))}
			switch s.below(20) {
			case 0:
				x.Rate = 0
			case 1:
				x.Burst = 200 + s.below(200)
			}
			g.Curves[flow] = append(g.Curves[flow], x)
		}
	}
	return g
}

// bytesOf each flow, of all packets.
func bytesOf(p packets) []int {
	out := make([]int, api.MaxFlows)
	for _, x := range p {
		out[x.Flow] += x.Size
	}
	return out
}

// P90: whatever the script, its packets are packets, one of each number that counts, by their order; each tells its number, but for multiples of 6300; numbers behind make no difference.
func TestPacketsAlways(t *testing.T) {
	var s source
	most, passed := 0, 0
	for i := range 2000 {
		script := s.script([]int{3, 50, 300, 900}[i%4])
		p := play.Packets(script)
		if err := bucket.Check(p); err != nil {
			t.Fatal(script, p, err)
		}
		count := slices.DeleteFunc(slices.Clone(script), func(v int) bool { return v < 0 })
		if len(p) != min(len(count), api.MaxPackets) {
			t.Fatal(script, len(p))
		}
		at := 0
		for k, x := range p {
			gap := x.At - at
			at = x.At
			if gap < 0 || gap > 6 || x.Flow > 2 || x.Size > 300 || gap+7*x.Flow+21*(x.Size-1) != count[k]%6300 {
				t.Fatal(script, p, k)
			}
		}
		if !slices.Equal(play.Packets(count), p) {
			t.Fatal(script, p)
		}
		few := play.Packets(script[:len(script)/2])
		if len(few) > len(p) || !slices.Equal(few, p[:len(few)]) {
			t.Fatal(script, p, few)
		}
		if len(count) > api.MaxPackets {
			most++
		}
		if len(count) < len(script) {
			passed++
		}
	}
	if most < 200 || passed < 1000 {
		t.Error(most, passed)
	}
}

// byWords are tallies, each flow by itself, of lists of all that was sent of it.
func byWords(p packets, l sents) tallies {
	out := make(tallies, api.MaxFlows)
	for flow := range out {
		var sizes, delays, tos []int
		for _, x := range l {
			if y := p[x.Packet]; y.Flow == flow {
				sizes, delays, tos = append(sizes, y.Size), append(delays, x.To-y.At), append(tos, x.To)
			}
		}
		if len(sizes) == 0 {
			continue
		}
		for _, size := range sizes {
			out[flow].Bytes += size
		}
		out[flow].Most, out[flow].Last = slices.Max(delays), slices.Max(tos)
	}
	return out
}

// P91: as by its words, of any lists; the order of what was sent makes no difference.
func TestTalliesAlways(t *testing.T) {
	var s source
	below, twice, none := 0, 0, 0
	for i := range 5000 {
		p := play.Packets(s.script(12))
		for k := range p {
			p[k].Flow = s.below(api.MaxFlows)
		}
		var l sents
		for range s.below(20) {
			if len(p) > 0 {
				l = append(l, api.Sent{Packet: s.below(len(p)), From: s.below(99), To: s.below(200) - []int{0, 100, 250}[i%3]})
			}
		}
		want := byWords(p, l)
		for range 2 {
			if got, err := play.Tallies(p, l); !slices.Equal(got, want) || err != nil {
				t.Fatal(p, l, got, want, err)
			}
			slices.Reverse(l)
		}
		for _, x := range want {
			if x.Last < 0 {
				below++
			}
			if x.Bytes == 0 {
				none++
			}
		}
		if len(l) > len(p) {
			twice++
		}
	}
	if below < 1000 || twice < 1000 || none < 1000 {
		t.Error(below, twice, none)
	}
}

// P92: whatever the script, and whatever the gate that lets all through: all bytes that come are sent, flow by flow. Tallies of what a gate sends are what the other packages tell of it.
func TestAllSent(t *testing.T) {
	var s source
	through, stuck, delayed := map[string]int{}, 0, 0
	for i := range 3000 {
		kind := kinds[i%len(kinds)]
		script, g := s.script([]int{3, 40, 400}[i/5%3]), s.gate(kind)
		p := play.Packets(script)
		q, l, err := gate.Run(g, p)
		if err != nil { // one is held for ever
			stuck++
			if x, e := play.Tallies(q, l); !slices.Equal(x, tally()) || e != nil || !errors.Is(err, api.ErrNone) {
				t.Fatal(g, p, q, l, err, x, e)
			}
			continue
		}
		through[kind]++
		if !slices.Equal(p, q) {
			delayed++
		}
		x, err := play.Tallies(q, l)
		if !slices.Equal(x, byWords(q, l)) || err != nil {
			t.Fatal(g, script, q, l, x, err)
		}
		delays, _ := fifo.Delays(q, l)
		longest, last := 0, 0
		for flow, n := range bytesOf(p) {
			if x[flow].Bytes != n {
				t.Fatal(g, script, q, l, x)
			}
			if n, err := audit.Bytes(q, l, flow, 0, x[flow].Last); x[flow].Bytes != n || err != nil {
				t.Fatal(g, script, q, l, x, n, err)
			}
			longest, last = max(longest, x[flow].Most), max(last, x[flow].Last)
		}
		if len(l) > 0 && (longest != slices.Max(delays) || last != l[len(l)-1].To) {
			t.Fatal(g, script, q, l, x)
		}
	}
	for _, kind := range kinds {
		if through[kind] < 300 {
			t.Error(kind, through[kind])
		}
	}
	if stuck < 150 || delayed < 500 {
		t.Error(stuck, delayed)
	}
}

// P92, of a link alone, and of as many packets as may be: it is busy for as long as the bytes need.
func TestAllSentAtOnce(t *testing.T) {
	for _, kind := range kinds {
		numbers := slices.Repeat([]int{1}, api.MaxFlows)
		if kind == "fifo" {
			numbers = nil
		}
		for _, v := range []int{0, 7, 14, 6279, 6293} {
			g := gate.Gate{Curves: make([][]api.Line, api.MaxFlows), Kind: kind, Per: 3, Numbers: numbers}
			p := play.Packets(slices.Repeat([]int{v, -1, v + 21*7}, api.MaxPackets))
			q, l, err := gate.Run(g, p)
			if !slices.Equal(q, p) || err != nil {
				t.Fatal(kind, v, q, l, err)
			}
			bytes := 0
			for _, x := range p {
				bytes += x.Size
			}
			want := tally()
			want[v/7%3] = play.Tally{Bytes: bytes, Most: 3 * bytes, Last: 3 * bytes}
			if x, err := play.Tallies(q, l); !slices.Equal(x, want) || err != nil {
				t.Error(kind, v, x, want, err)
			}
		}
	}
}

// P1, P3: whatever is handed over, a call ends; an error has nothing beside it, and without one there is a tally of each flow.
func TestWild(t *testing.T) {
	var s source
	wild := []int{low, -1 << 59, -2, -1, 0, 1, 2, 3, 5, 8, api.MaxSize, api.MaxTime, 1 << 59, high}
	tame := []int{0, 0, 0, 1, 1, 2, 3}
	well, wrong := 0, 0
	for i := range 50000 {
		// Wild numbers alone hardly ever come to the calls' ends.
		some := func(least int) int {
			if i%4 == 0 || s.below(60) == 0 {
				return wild[s.below(len(wild))]
			}
			return max(least, tame[s.below(len(tame))])
		}
		p, l := make(packets, s.below(4)), make(sents, s.below(4))
		for k := range p {
			p[k] = api.Packet{Flow: some(0), Size: some(1), At: some(0)}
		}
		for k := range l {
			l[k] = api.Sent{Packet: some(0), From: some(0), To: some(0)}
		}
		x, err := play.Tallies(p, l)
		_, none := fifo.Delays(p, l)
		if is := bucket.Check(p) == nil && none == nil; is != (err == nil) {
			t.Fatal(p, l, x, err)
		}
		if err != nil && len(x) != 0 || err == nil && len(x) != api.MaxFlows {
			t.Fatal(p, l, x, err)
		}
		if err != nil {
			wrong++
		} else if len(l) > 0 {
			well++
		}
	}
	if well < 1000 || wrong < 1000 {
		t.Error(well, wrong)
	}
}
