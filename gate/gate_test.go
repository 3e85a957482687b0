package gate_test

import (
	"math"
	"slices"
	"testing"

	"floodgate/api"
	"floodgate/gate"
)

type (
	packets = []api.Packet
	sents   = []api.Sent
	lines   = []api.Line
)

// bare is the place of an error that has none.
const bare = -1

const (
	low  = math.MinInt
	high = math.MaxInt
)

// kinds of links.
var kinds = []string{"fifo", "rank", "due", "round", "fair"}

// least and greatest number that a flow may have, of each kind that has numbers.
var (
	leastOf    = map[string]int{"rank": 0, "due": 0, "round": 1, "fair": 1}
	greatestOf = map[string]int{"rank": 100, "due": api.MaxTime, "round": api.MaxQuantum, "fair": 12}
)

// of makes packets of their Flows, Sizes and Ats, by turns.
func of(numbers ...int) packets {
	var out packets
	for i := 0; i < len(numbers); i += 3 {
		out = append(out, api.Packet{Flow: numbers[i], Size: numbers[i+1], At: numbers[i+2]})
	}
	return out
}

// sent packets, of their numbers, Froms and Tos, by turns.
func sent(numbers ...int) sents {
	var out sents
	for i := 0; i < len(numbers); i += 3 {
		out = append(out, api.Sent{Packet: numbers[i], From: numbers[i+1], To: numbers[i+2]})
	}
	return out
}

// line makes lines of their Bursts and Rates, by turns.
func line(numbers ...int) lines {
	var out lines
	for i := 0; i < len(numbers); i += 2 {
		out = append(out, api.Line{Burst: numbers[i], Rate: numbers[i+1]})
	}
	return out
}

// flows have these curves, the others empty ones.
func flows(first ...lines) []lines {
	return append(first, make([]lines, api.MaxFlows-len(first))...)
}

// all flows have this number.
func all(n int) []int { return slices.Repeat([]int{n}, api.MaxFlows) }

// each flow's number: those of the first ones, 1 for the others.
func each(first ...int) []int {
	return append(first, all(1)[len(first):]...)
}

// numbersOf a kind that are well.
func numbersOf(kind string) []int {
	if kind == "fifo" {
		return nil
	}
	return all(1)
}

// in order, with these curves.
func inOrder(per int, curves ...lines) gate.Gate {
	return gate.Gate{Curves: flows(curves...), Kind: "fifo", Per: per}
}

// by this kind, with these curves.
func by(kind string, per int, curves ...lines) gate.Gate {
	return gate.Gate{Curves: flows(curves...), Kind: kind, Per: per, Numbers: numbersOf(kind)}
}

// isFault tells whether err is just this error, at this place or bare.
func isFault(err, want error, at int) bool {
	if at == bare {
		return err == want
	}
	f, ok := err.(*api.Fault)
	return ok && f.At == at && f.Err == want
}

// fails tells whether all three calls have this error, and nothing beside it.
func fails(g gate.Gate, p packets, want error, at int) bool {
	q, l, e1 := gate.Run(g, p)
	n, e2 := gate.Bound(g)
	return len(q) == 0 && len(l) == 0 && n == 0 && isFault(e1, want, at) && isFault(e2, want, at) && isFault(gate.Check(g), want, at)
}

// P80: gates that are well.
func TestCheck(t *testing.T) {
	most := line(1, 0, 2, 0, api.MaxBurst, api.MaxRate, 4, 7, 4, 7, 1, api.MaxRate)
	for name, curves := range map[string][]lines{
		"no curves":                  flows(),
		"empty ones, not nil":        slices.Repeat([]lines{{}}, api.MaxFlows),
		"the first":                  flows(line(1, 0)),
		"behind an empty one":        flows(nil, line(1, 0), nil, most),
		"the last":                   flows(nil, nil, nil, nil, nil, nil, nil, line(5, 5)),
		"of all":                     slices.Repeat([]lines{line(api.MaxBurst, api.MaxRate)}, api.MaxFlows),
		"of as many lines as may be": slices.Repeat([]lines{most}, api.MaxFlows),
	} {
		for _, per := range []int{1, 2, api.MaxPer} {
			for _, numbers := range [][]int{nil, {}} {
				if err := gate.Check(gate.Gate{Curves: curves, Kind: "fifo", Per: per, Numbers: numbers}); err != nil {
					t.Error(name, per, numbers, err)
				}
			}
			for _, kind := range kinds[1:] {
				for _, n := range []int{leastOf[kind], greatestOf[kind], 3} {
					if err := gate.Check(gate.Gate{Curves: curves, Kind: kind, Per: per, Numbers: all(n)}); err != nil {
						t.Error(name, per, kind, n, err)
					}
				}
			}
		}
	}
}

// P80: not so many curves as flows.
func TestShape(t *testing.T) {
	for _, kind := range kinds {
		for n := range 2*api.MaxFlows + 1 {
			g := by(kind, 1)
			g.Curves = make([]lines, n)
			if n == api.MaxFlows {
				continue
			}
			if !fails(g, nil, api.ErrShape, bare) {
				t.Error(kind, n)
			}
		}
		g := by(kind, 1)
		g.Curves = nil
		if !fails(g, of(0, 1, 0), api.ErrShape, bare) {
			t.Error(kind)
		}
	}
}

// P80: curves that are none, with their flow's place, not with their line's.
func TestCurves(t *testing.T) {
	wrong := map[error][]lines{
		api.ErrShape: {
			make(lines, api.MaxLines+1),
			slices.Repeat(line(1, 0), api.MaxLines+1),
			slices.Repeat(line(0, 0), 300), // wrong in both ways
		},
		api.ErrBound: {
			line(0, 0), line(-1, 5), line(low, 0), line(api.MaxBurst+1, 0), line(high, high),
			line(1, -1), line(1, api.MaxRate+1), line(1, low), line(1, high),
			line(1, 0, 1, 0, 1, 0, 1, 0, 0, 0), line(1, 1, 0, 1, 1, -1),
		},
	}
	for want, curves := range wrong {
		for _, l := range curves {
			for flow := range api.MaxFlows {
				for _, kind := range kinds {
					g := by(kind, 2)
					g.Curves[flow] = l
					if !fails(g, nil, want, flow) {
						t.Error(l, flow, kind, gate.Check(g))
					}
					for other := flow + 1; other < api.MaxFlows; other++ { // the first is told
						g.Curves[other] = wrong[api.ErrShape][0]
						if !fails(g, nil, want, flow) {
							t.Error(l, flow, other, kind, gate.Check(g))
						}
						g.Curves[other] = line(0, 0)
					}
					if !fails(g, nil, want, flow) {
						t.Error(l, flow, kind, gate.Check(g))
					}
				}
			}
		}
	}
}

// P80: a kind that is none.
func TestKind(t *testing.T) {
	for _, kind := range []string{"", " ", "what", "FIFO", "Fifo", "fifo ", " fifo", "fif", "fifos", "rank\x00", "ranks", "deadlines", "dues", "rounds", "fairs", "fiſo", "\xff"} {
		for _, numbers := range [][]int{nil, all(1), all(-1), {1}} {
			for _, per := range []int{1, 0} {
				if !fails(gate.Gate{Curves: flows(line(1, 1)), Kind: kind, Per: per, Numbers: numbers}, nil, api.ErrKind, bare) {
					t.Error(kind, numbers, per)
				}
			}
		}
	}
}

// P80: wrong links, and wrong numbers of right ones.
func TestLink(t *testing.T) {
	for _, kind := range kinds {
		for _, per := range []int{0, -1, api.MaxPer + 1, low, high} {
			for _, numbers := range [][]int{nil, all(1), all(-1), {1}, all(1)[1:], append(all(1), 1)} { // per comes first
				g := by(kind, per, line(1, 1))
				g.Numbers = numbers
				if !fails(g, of(0, 1, 0), api.ErrBound, bare) {
					t.Error(kind, per, numbers)
				}
			}
		}
	}
	for n := 1; n <= 2*api.MaxFlows; n++ {
		for _, value := range []int{0, 1, -1} {
			g := inOrder(1, line(1, 1))
			g.Numbers = slices.Repeat([]int{value}, n)
			if !fails(g, nil, api.ErrShape, bare) {
				t.Error("fifo", n, value)
			}
		}
	}
	for _, kind := range kinds[1:] {
		for n := range 2 * api.MaxFlows {
			for _, value := range []int{1, leastOf[kind] - 1, greatestOf[kind] + 1} { // how many comes first
				g := by(kind, 1, line(1, 1))
				g.Numbers = slices.Repeat([]int{value}, n)
				if n != api.MaxFlows && !fails(g, nil, api.ErrShape, bare) {
					t.Error(kind, n, value)
				}
			}
		}
		wrong := []int{leastOf[kind] - 1, greatestOf[kind] + 1, low, high}
		if kind == "fair" {
			wrong = append(wrong, 5, 7, 8, 9, 10, 11, 24)
		}
		for _, n := range wrong {
			for flow := range api.MaxFlows {
				g := by(kind, 1, line(1, 1))
				g.Numbers[flow] = n
				if !fails(g, nil, api.ErrBound, bare) {
					t.Error(kind, flow, n)
				}
			}
		}
	}
}

// spoilers of a gate, in the order in which their errors are told.
var spoilers = []struct {
	name  string
	spoil func(g *gate.Gate)
	err   error
	at    int
}{
	{"curves", func(g *gate.Gate) { g.Curves = g.Curves[:api.MaxFlows-1] }, api.ErrShape, bare},
	{"a curve", func(g *gate.Gate) { g.Curves[2] = line(1, 1, 1, -1) }, api.ErrBound, 2},
	{"a later curve", func(g *gate.Gate) { g.Curves[5] = slices.Repeat(line(1, 1), api.MaxLines+1) }, api.ErrShape, 5},
	{"kind", func(g *gate.Gate) { g.Kind = "what" }, api.ErrKind, bare},
	{"per", func(g *gate.Gate) { g.Per = 0 }, api.ErrBound, bare},
	{"numbers", func(g *gate.Gate) { g.Numbers = append(all(1), 1) }, api.ErrShape, bare},
}

// P80 to P82: of a gate that is wrong in more ways than one, the first error; wrong packets come behind all of these.
func TestOrder(t *testing.T) {
	for _, kind := range kinds {
		for set := 1; set < 1<<len(spoilers); set++ {
			g := by(kind, 3, line(4, 4))
			first := -1
			for i := len(spoilers) - 1; i >= 0; i-- {
				if set>>i&1 == 1 {
					spoilers[i].spoil(&g)
					first = i
				}
			}
			want := spoilers[first]
			for _, p := range []packets{nil, of(0, 4, 0), of(-1, 0, -1), of(0, 1500, 5, 0, 1, 4), make(packets, api.MaxPackets+1)} {
				if !fails(g, p, want.err, want.at) {
					t.Error(kind, set, want.name, p, gate.Check(g))
				}
			}
		}
	}
}

// P81: in order.
func TestRun(t *testing.T) {
	const end = api.MaxTime
	for _, c := range []struct {
		name string
		g    gate.Gate
		p    packets
		q    packets
		l    sents
	}{
		{"no list", inOrder(1, line(5, 5)), nil, nil, nil},
		{"no packets", inOrder(api.MaxPer), packets{}, nil, nil},
		{"no curves", inOrder(2), of(0, 5, 1, 7, 1, 2, 0, 1500, 2, 3, 1, 40), of(0, 5, 1, 7, 1, 2, 0, 1500, 2, 3, 1, 40), sent(0, 1, 11, 1, 11, 13, 2, 13, 3013, 3, 3013, 3015)},
		{"one that leaves at once", inOrder(2, line(5, 100)), of(0, 3, 5), of(0, 3, 5), sent(0, 5, 11)},
		{"one that is delayed", inOrder(1, line(5, 100)), of(0, 5, 1, 0, 1, 2), of(0, 5, 1, 0, 1, 11), sent(0, 1, 6, 1, 11, 12)},
		{"by two lines", inOrder(1, line(5, 100, 2, 500)), of(0, 2, 0, 0, 2, 0, 0, 2, 0), of(0, 2, 0, 0, 2, 4, 0, 2, 10), sent(0, 0, 2, 1, 4, 6, 2, 10, 12)},
		{"each flow has its own bucket", inOrder(1, line(4, 1), line(4, 1)), of(0, 4, 3, 1, 4, 3), of(0, 4, 3, 1, 4, 3), sent(0, 3, 7, 1, 7, 11)},
		{"each flow has its own curve", inOrder(1, line(4, 250), line(4, 500)), of(0, 4, 0, 1, 4, 0, 0, 1, 0, 1, 1, 0), of(0, 4, 0, 1, 4, 0, 1, 1, 2, 0, 1, 4), sent(0, 0, 4, 1, 4, 8, 2, 8, 9, 3, 9, 10)},
		{"a curve behind an empty one", inOrder(1, nil, nil, line(4, 250)), of(0, 9, 0, 2, 4, 0, 2, 1, 0, 0, 9, 2), of(0, 9, 0, 2, 4, 0, 0, 9, 2, 2, 1, 4), sent(0, 0, 9, 1, 9, 13, 2, 13, 22, 3, 22, 23)},
		{"the last flow's curve", inOrder(1, nil, nil, nil, nil, nil, nil, nil, line(4, 250)), of(7, 4, 0, 7, 1, 0), of(7, 4, 0, 7, 1, 4), sent(0, 0, 4, 1, 4, 5)},
		{"a flow without curve is not held by others", inOrder(1, line(4, 250)), of(0, 4, 0, 0, 4, 1, 1, 1500, 2, 1, 1500, 3), of(0, 4, 0, 1, 1500, 2, 1, 1500, 3, 0, 4, 16), sent(0, 0, 4, 1, 4, 1504, 2, 1504, 3004, 3, 3004, 3008)},
		{"of one tick, by their numbers", inOrder(1, line(9, 9), line(9, 9)), of(1, 1, 4, 0, 2, 4, 7, 3, 4, 1, 4, 4), of(1, 1, 4, 0, 2, 4, 7, 3, 4, 1, 4, 4), sent(0, 4, 5, 1, 5, 7, 2, 7, 10, 3, 10, 14)},
		{"a delayed one that leaves as a later one comes", inOrder(1, line(5, 100)), of(0, 5, 1, 0, 1, 2, 1, 4, 11, 1, 1, 12), of(0, 5, 1, 0, 1, 11, 1, 4, 11, 1, 1, 12), sent(0, 1, 6, 1, 11, 12, 2, 12, 16, 3, 16, 17)},
		{"and a tick behind that", inOrder(1, line(5, 100)), of(0, 5, 1, 0, 1, 2, 1, 4, 10, 1, 1, 12), of(0, 5, 1, 1, 4, 10, 0, 1, 11, 1, 1, 12), sent(0, 1, 6, 1, 10, 14, 2, 14, 15, 3, 15, 16)},
		{"two delayed ones that leave at one tick", inOrder(1, line(4, 250), line(2, 500)), of(0, 4, 0, 1, 2, 0, 1, 2, 0, 0, 1, 0), of(0, 4, 0, 1, 2, 0, 1, 2, 4, 0, 1, 4), sent(0, 0, 4, 1, 4, 6, 2, 6, 8, 3, 8, 9)},
		{"the same, the flows the other way round", inOrder(1, line(2, 500), line(4, 250)), of(1, 4, 0, 0, 2, 0, 1, 1, 0, 0, 2, 0), of(1, 4, 0, 0, 2, 0, 1, 1, 4, 0, 2, 4), sent(0, 0, 4, 1, 4, 6, 2, 6, 7, 3, 7, 9)},
		{"three that leave at one tick, of three Ats", inOrder(1, line(1, 100), line(1, 200)), of(0, 1, 0, 0, 1, 1, 1, 1, 5, 1, 1, 6, 2, 1, 10), of(0, 1, 0, 1, 1, 5, 0, 1, 10, 1, 1, 10, 2, 1, 10), sent(0, 0, 1, 1, 5, 6, 2, 10, 11, 3, 11, 12, 4, 12, 13)},
		{"flows that pass one another", inOrder(2, line(3, 100), line(3, 1000)), of(0, 3, 0, 1, 3, 0, 0, 3, 1, 1, 3, 1), of(0, 3, 0, 1, 3, 0, 1, 3, 3, 0, 3, 30), sent(0, 0, 6, 1, 6, 12, 2, 12, 18, 3, 30, 36)},
		{"and of one flow none does", inOrder(1, line(3, 1000)), of(0, 3, 0, 0, 3, 0, 0, 1, 0), of(0, 3, 0, 0, 3, 3, 0, 1, 4), sent(0, 0, 3, 1, 3, 6, 2, 6, 7)},
		{"just as great as its burst", inOrder(1, line(1500, 0), line(7, 1)), of(0, 1500, 3, 1, 7, 4), of(0, 1500, 3, 1, 7, 4), sent(0, 3, 1503, 1, 1503, 1510)},
		{"just as great as its least burst, twice", inOrder(1, line(9, 500, 3, 1000)), of(0, 3, 0, 0, 3, 1), of(0, 3, 0, 0, 3, 3), sent(0, 0, 3, 1, 3, 6)},
		{"all of a burst that gets no more", inOrder(1, line(9, 0)), of(0, 4, 0, 0, 5, 1), of(0, 4, 0, 0, 5, 1), sent(0, 0, 4, 1, 4, 9)},
		{"at the last tick", inOrder(api.MaxPer, line(2, 1)), of(0, 2, end-2000, 0, 2, end-1999, 3, 1500, end), of(0, 2, end-2000, 0, 2, end, 3, 1500, end), sent(0, end-2000, end, 1, end, end+2000, 2, end+2000, end+1502000)},
	} {
		q, l, err := gate.Run(c.g, c.p)
		if !slices.Equal(q, c.q) || !slices.Equal(l, c.l) || err != nil {
			t.Error(c.name, q, l, err)
		}
	}
}

// P81: of each kind by its rule, and with its numbers; the ticks that it goes by are the new ones.
func TestKinds(t *testing.T) {
	// One that is sent for a long time, and behind it one of each of four flows; that of flow 1 comes first, and leaves its shaper last.
	p := of(0, 50, 0, 1, 2, 0, 1, 9, 1, 2, 4, 3, 3, 6, 4, 4, 2, 5)
	q := of(0, 50, 0, 1, 2, 0, 2, 4, 3, 3, 6, 4, 4, 2, 5, 1, 9, 9)
	curve := line(9, 223)
	for _, c := range []struct {
		kind    string
		numbers []int
		want    sents
	}{
		{"fifo", nil, sent(0, 0, 50, 1, 50, 52, 2, 52, 56, 3, 56, 62, 4, 62, 64, 5, 64, 73)},
		{"rank", each(7, 5, 6, 4, 6), sent(1, 0, 2, 0, 2, 52, 3, 52, 58, 5, 58, 67, 2, 67, 71, 4, 71, 73)},
		{"due", each(5, 6, 11, 12, 9), sent(0, 0, 50, 1, 50, 52, 2, 52, 56, 4, 56, 58, 5, 58, 67, 3, 67, 73)},
		{"round", each(50, 2, 2, 6, 1), sent(0, 0, 50, 1, 50, 52, 3, 52, 58, 2, 58, 62, 4, 62, 64, 5, 64, 73)},
		{"fair", each(12, 12, 1, 12, 3), sent(1, 0, 2, 0, 2, 52, 3, 52, 58, 4, 58, 60, 5, 60, 69, 2, 69, 73)},
	} {
		g := gate.Gate{Curves: flows(nil, curve), Kind: c.kind, Per: 1, Numbers: c.numbers}
		got, l, err := gate.Run(g, p)
		if !slices.Equal(got, q) || !slices.Equal(l, c.want) || err != nil {
			t.Error(c.kind, got, l, err)
		}
	}
}

// P81: the packets' errors, as bucket.Check tells them, and ahead of what never leaves.
func TestPackets(t *testing.T) {
	for _, c := range []struct {
		p   packets
		err error
		at  int
	}{
		{slices.Repeat(of(1, 1, 7), api.MaxPackets+1), api.ErrBound, bare},
		{make(packets, api.MaxPackets+1), api.ErrBound, bare},
		{of(-1, 1, 0), api.ErrBound, 0},
		{of(api.MaxFlows, 1, 0), api.ErrBound, 0},
		{of(0, 0, 0), api.ErrBound, 0},
		{of(0, api.MaxSize+1, 0), api.ErrBound, 0},
		{of(0, 1, -1), api.ErrBound, 0},
		{of(0, 1, api.MaxTime+1), api.ErrBound, 0},
		{of(low, high, high), api.ErrBound, 0},
		{of(0, 1, 5, 1, 1, 4), api.ErrOld, 1},
		{of(0, 9, 5, 1, 0, 4), api.ErrBound, 1},
		{of(0, 9, 5, 0, 1, 5, 1, 1, 4, 0, 0, 5), api.ErrOld, 2},
		{of(1, 9, 0, 0, 9, 0, 3, 0, 0), api.ErrBound, 2},
	} {
		for _, kind := range kinds {
			for _, g := range []gate.Gate{by(kind, 1), by(kind, 1, line(3, 0), line(3, 0))} {
				q, l, err := gate.Run(g, c.p)
				if len(q) != 0 || len(l) != 0 || !isFault(err, c.err, c.at) {
					t.Error(c.p, kind, q, l, err)
				}
			}
		}
	}
	most := slices.Repeat(of(1, 1, 7), api.MaxPackets)
	if q, l, err := gate.Run(inOrder(1), most); !slices.Equal(q, most) || len(l) != api.MaxPackets || err != nil {
		t.Error(q, l, err)
	}
}

// P81: packets that never leave their shapers: the first of all is told, whatever its flow.
func TestNever(t *testing.T) {
	const end = api.MaxTime
	for _, c := range []struct {
		name   string
		curves []lines
		p      packets
		at     int
	}{
		{"greater than its burst", flows(line(5, 100)), of(0, 5, 0, 0, 6, 9000), 1},
		{"greater than one of its bursts", flows(line(9, 9, 6, 99, 5, 999)), of(0, 6, 0), 0},
		{"greater than what its burst has left", flows(line(5, 0)), of(0, 3, 0, 0, 2, 7, 0, 1, 9, 0, 1, 10), 2},
		{"of one line that gets no more", flows(line(9, 900, 5, 0)), of(0, 3, 0, 0, 3, end), 1},
		{"too late by a tick", flows(line(2, 1)), of(0, 2, end-1999, 0, 1, end-1999, 0, 1, end-1999), 2},
		{"held by the one ahead", flows(line(9, 1)), of(0, 9, end-9000, 0, 9, end-9000, 0, 1, end), 2},
		{"of a flow behind an empty one", flows(nil, nil, line(5, 100)), of(0, 6, 0, 2, 5, 0, 2, 6, 0), 2},
		{"of the last flow", flows(nil, nil, nil, nil, nil, nil, nil, line(5, 100)), of(0, 6, 0, 6, 6, 0, 7, 6, 0), 2},
		{"its number is that of all, not of its flow", flows(line(5, 100), line(5, 100)), of(0, 1, 0, 0, 1, 0, 0, 1, 0, 1, 5, 0, 1, 6, 0), 4},
		{"of two flows, the greater flow's first", flows(line(5, 100), line(5, 100)), of(1, 1, 0, 1, 6, 0, 0, 6, 0, 1, 6, 0), 1},
		{"of two flows, the lesser flow's first", flows(line(5, 100), line(5, 100)), of(1, 1, 0, 0, 6, 0, 1, 6, 0, 0, 6, 0), 1},
		{"of three flows", flows(line(5, 100), line(7, 0), line(3, 50)), of(0, 5, 0, 1, 5, 0, 2, 3, 1, 1, 2, 2, 2, 4, 3, 1, 1, 3, 0, 6, 3), 4},
		{"the first by number, not by when it would leave", flows(line(5, 1), line(5, 100)), of(0, 5, 0, 0, 5, 0, 0, 6, 0, 1, 6, 1), 2},
	} {
		for _, kind := range kinds {
			g := by(kind, 2)
			g.Curves = c.curves
			q, l, err := gate.Run(g, c.p)
			if len(q) != 0 || len(l) != 0 || !isFault(err, api.ErrNone, c.at) {
				t.Error(c.name, kind, q, l, err)
			}
			// All that come ahead of it leave.
			if q, l, err := gate.Run(g, c.p[:c.at]); len(q) != c.at || len(l) != c.at || err != nil {
				t.Error(c.name, kind, q, l, err)
			}
		}
	}
}
