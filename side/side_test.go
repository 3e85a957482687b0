package side_test

import (
	"math"
	"slices"
	"testing"

	"floodgate/api"
	"floodgate/gate"
	"floodgate/side"
)

type (
	packets = []api.Packet
	sents   = []api.Sent
	lines   = []api.Line
)

const (
	low  = math.MinInt
	high = math.MaxInt
	most = 100 // that a call has to do
	bare = -1  // the place of an error that has none
)

// kinds of links.
var kinds = []string{"fifo", "rank", "due", "round", "fair"}

// wrongWorkers are none that a call may have.
var wrongWorkers = []int{low, -2, -1, 0, api.Workers + 1, api.Workers + 2, 1000, high}

// of makes packets of their Flows, Sizes and Ats, by turns.
func of(numbers ...int) packets {
	var out packets
	for i := 0; i < len(numbers); i += 3 {
		out = append(out, api.Packet{Flow: numbers[i], Size: numbers[i+1], At: numbers[i+2]})
	}
	return out
}

// sent packets, of their numbers, Froms and Tos, by turns.
func sent(numbers ...int) sents {
	var out sents
	for i := 0; i < len(numbers); i += 3 {
		out = append(out, api.Sent{Packet: numbers[i], From: numbers[i+1], To: numbers[i+2]})
	}
	return out
}

// line makes lines of their Bursts and Rates, by turns.
func line(numbers ...int) lines {
	var out lines
	for i := 0; i < len(numbers); i += 2 {
		out = append(out, api.Line{Burst: numbers[i], Rate: numbers[i+1]})
	}
	return out
}

// by this kind, with these curves, the others empty ones.
func by(kind string, per int, curves ...lines) gate.Gate {
	g := gate.Gate{Curves: append(curves, make([]lines, api.MaxFlows-len(curves))...), Kind: kind, Per: per}
	if kind != "fifo" {
		g.Numbers = slices.Repeat([]int{1}, api.MaxFlows)
	}
	return g
}

// isFault tells whether err is just this error, at this place or bare.
func isFault(err, want error, at int) bool {
	if at == bare {
		return err == want
	}
	f, ok := err.(*api.Fault)
	return ok && f.At == at && f.Err == want
}

// sameLists tells whether lists are the same; a nil one and an empty one are.
func sameLists(a, b []sents) bool {
	return slices.EqualFunc(a, b, func(x, y sents) bool { return slices.Equal(x, y) })
}

// runs asks for Runs by each number of workers: is it want each time?
func runs(t *testing.T, name string, g gate.Gate, l []packets, want []sents) {
	t.Helper()
	for workers := 1; workers <= api.Workers; workers++ {
		if got, err := side.Runs(g, l, workers); !sameLists(got, want) || err != nil {
			t.Error(name, workers, got, err)
		}
	}
}

// runsFail asks for Runs by each number of workers: is it this error each time, and nothing beside it?
func runsFail(t *testing.T, name string, g gate.Gate, l []packets, want error, at int) {
	t.Helper()
	for workers := 1; workers <= api.Workers; workers++ {
		if got, err := side.Runs(g, l, workers); len(got) != 0 || !isFault(err, want, at) {
			t.Error(name, workers, got, err)
		}
	}
}

// delays asks for Delays by each number of workers: is it want each time?
func delays(t *testing.T, name string, l []lines, per int, want []int) {
	t.Helper()
	for workers := 1; workers <= api.Workers; workers++ {
		if got, err := side.Delays(l, per, workers); !slices.Equal(got, want) || err != nil {
			t.Error(name, workers, got, err)
		}
	}
}

// delaysFail asks for Delays by each number of workers: is it this error each time, and nothing beside it?
func delaysFail(t *testing.T, name string, l []lines, per int, want error, at int) {
	t.Helper()
	for workers := 1; workers <= api.Workers; workers++ {
		if got, err := side.Delays(l, per, workers); len(got) != 0 || !isFault(err, want, at) {
			t.Error(name, workers, got, err)
		}
	}
}

// P100: none, one, some.
func TestRuns(t *testing.T) {
	held := by("fifo", 2, line(5, 100), line(3, 200))
	one, three := of(0, 3, 5), of(0, 5, 1, 0, 1, 2, 1, 3, 3)
	for _, c := range []struct {
		name string
		g    gate.Gate
		l    []packets
		want []sents
	}{
		{"no list of lists", by("fifo", 2), nil, nil},
		{"no lists", by("fifo", 2), []packets{}, nil},
		{"no packets", by("fifo", 2), []packets{nil}, []sents{nil}},
		{"no packets, not nil", by("fifo", 2), []packets{{}}, []sents{nil}},
		{"no packets, time and again", by("fifo", 2), []packets{nil, {}, nil, {}}, make([]sents, 4)},
		{"one, as the document tells", by("fifo", 2), []packets{one}, []sents{sent(0, 5, 11)}},
		{"one of the slowest link", by("fifo", api.MaxPer), []packets{of(0, 1, 0)}, []sents{sent(0, 0, api.MaxPer)}},
		{"none and one", by("fifo", 2), []packets{nil, one, {}}, []sents{nil, sent(0, 5, 11), nil}},
		{"the same one twice", by("fifo", 2), []packets{one, one}, []sents{sent(0, 5, 11), sent(0, 5, 11)}},
		{"each at a link of its own", by("fifo", 1), []packets{of(0, 9, 0), of(0, 1, 3)}, []sents{sent(0, 0, 9), sent(0, 3, 4)}},
		{"each through shapers of its own", held, []packets{of(0, 5, 1), of(0, 5, 1), of(0, 5, 1)}, slices.Repeat([]sents{sent(0, 1, 11)}, 3)},
		{"by the numbers at the link", held, []packets{three, nil, three[:2]}, []sents{sent(0, 1, 11, 1, 11, 17, 2, 17, 19), nil, sent(0, 1, 11, 1, 11, 13)}},
	} {
		runs(t, c.name, c.g, c.l, c.want)
	}
}

// P100: of each kind, what it picks.
func TestRunsKinds(t *testing.T) {
	l := []packets{of(0, 10, 0, 0, 10, 0, 1, 10, 0), nil, of(1, 5, 0, 0, 1, 1, 2, 1, 3)}
	for _, c := range []struct {
		kind    string
		numbers []int
		want    []sents
	}{
		{"fifo", nil, []sents{sent(0, 0, 10, 1, 10, 20, 2, 20, 30), nil, sent(0, 0, 5, 1, 5, 6, 2, 6, 7)}},
		{"rank", []int{2, 1, 0, 0, 0, 0, 0, 0}, []sents{sent(2, 0, 10, 0, 10, 20, 1, 20, 30), nil, sent(0, 0, 5, 2, 5, 6, 1, 6, 7)}},
		{"due", []int{9, 8, 1, 0, 0, 0, 0, 0}, []sents{sent(2, 0, 10, 0, 10, 20, 1, 20, 30), nil, sent(0, 0, 5, 2, 5, 6, 1, 6, 7)}},
		{"round", slices.Repeat([]int{10}, 8), []sents{sent(0, 0, 10, 2, 10, 20, 1, 20, 30), nil, sent(0, 0, 5, 1, 5, 6, 2, 6, 7)}},
		{"fair", []int{1, 2, 12, 1, 1, 1, 1, 1}, []sents{sent(2, 0, 10, 0, 10, 20, 1, 20, 30), nil, sent(0, 0, 5, 2, 5, 6, 1, 6, 7)}},
	} {
		g := by(c.kind, 1)
		g.Numbers = c.numbers
		runs(t, c.kind, g, l, c.want)
	}
}

// P100: each answer stands where its packets do, up to as many as may be.
func TestRunsMany(t *testing.T) {
	for _, n := range []int{1, 2, 3, api.Workers - 1, api.Workers, api.Workers + 1, most - 1, most} {
		l, want := make([]packets, n), make([]sents, n)
		for i := range n {
			for k := range i % 7 {
				l[i] = append(l[i], api.Packet{Flow: k, Size: 1 + i, At: i})
				want[i] = append(want[i], api.Sent{Packet: k, From: i + 3*k*(1+i), To: i + 3*(k+1)*(1+i)})
			}
		}
		runs(t, "many", by("fifo", 3), l, want)
	}
}

// wrongGates, with the error and the place that gate.Check has.
func wrongGates() map[string]struct {
	g   gate.Gate
	err error
	at  int
} {
	type wrong = struct {
		g   gate.Gate
		err error
		at  int
	}
	few, many, kind := by("fifo", 1), by("what", 0), by("what", 0)
	few.Curves, many.Curves = few.Curves[1:], append(many.Curves, nil)
	return map[string]wrong{
		"nothing at all":         {gate.Gate{}, api.ErrShape, bare},
		"too few curves":         {few, api.ErrShape, bare},
		"too many curves":        {many, api.ErrShape, bare},
		"the first curve":        {by("what", 0, line(0, 0)), api.ErrBound, 0},
		"the third line":         {by("fifo", 1, nil, line(1, 1), nil, line(1, 1, 1, 1, 1, -1)), api.ErrBound, 3},
		"the first of two":       {by("fifo", 1, nil, make(lines, api.MaxLines+1), line(0, 0)), api.ErrShape, 1},
		"no kind":                {kind, api.ErrKind, bare},
		"per below 1":            {by("fifo", 0), api.ErrBound, bare},
		"per too great":          {by("round", api.MaxPer+1), api.ErrBound, bare},
		"numbers in order":       {gate.Gate{Curves: make([]lines, api.MaxFlows), Kind: "fifo", Per: 1, Numbers: []int{1}}, api.ErrShape, bare},
		"no numbers by rank":     {gate.Gate{Curves: make([]lines, api.MaxFlows), Kind: "rank", Per: 1}, api.ErrShape, bare},
		"a weight that is none":  {gate.Gate{Curves: make([]lines, api.MaxFlows), Kind: "fair", Per: 1, Numbers: slices.Repeat([]int{5}, api.MaxFlows)}, api.ErrBound, bare},
		"a quantum that is none": {gate.Gate{Curves: make([]lines, api.MaxFlows), Kind: "round", Per: 1, Numbers: make([]int, api.MaxFlows)}, api.ErrBound, bare},
	}
}

// P100: workers come first, whatever else is wrong.
func TestRunsWorkers(t *testing.T) {
	gates := []gate.Gate{by("fifo", 1), by("what", 0), {}}
	lists := [][]packets{nil, {nil}, {of(0, 1, 0)}, {of(0, 0, 0)}, make([]packets, most), make([]packets, most+1)}
	for _, workers := range wrongWorkers {
		for _, g := range gates {
			for _, l := range lists {
				if got, err := side.Runs(g, l, workers); len(got) != 0 || err != api.ErrShape {
					t.Error(workers, g, l, got, err)
				}
			}
		}
	}
}

// P100: then how many there are, whatever the gate and they are.
func TestRunsBound(t *testing.T) {
	gates := []gate.Gate{by("fifo", 1)}
	for _, c := range wrongGates() {
		gates = append(gates, c.g)
	}
	for _, g := range gates {
		for _, n := range []int{most + 1, most + 2, 1000} {
			for _, p := range []packets{nil, of(0, 1, 0), of(0, 0, 0)} {
				runsFail(t, "too many", g, slices.Repeat([]packets{p}, n), api.ErrBound, bare)
			}
		}
	}
}

// P100: then the gate, also where there is nothing to do, or packets are wrong: it keeps the place that its check has.
func TestRunsGate(t *testing.T) {
	lists := [][]packets{nil, {}, {nil}, {of(0, 1, 0), nil}, {nil, of(0, 0, 0)}, {of(9, 9, 9), of(0, 1, 5, 0, 1, 4)}, make([]packets, most)}
	for name, c := range wrongGates() {
		for _, l := range lists {
			runsFail(t, name, c.g, l, c.err, c.at)
		}
	}
}

// slow takes a gate long: as many packets as may be, of flow 2, this one the last of them.
func slow(last api.Packet) packets {
	out := make(packets, api.MaxPackets)
	for i := range out {
		out[i] = api.Packet{Flow: 2, Size: 1 + i%5, At: i}
	}
	out[len(out)-1] = last
	return out
}

// P100: the first that has an error, with that error alone.
func TestRunsFault(t *testing.T) {
	g := by("round", 2, line(5, 100), line(3, 0), line(8, 1000))
	good, old, wrong, never := of(0, 1, 0), of(2, 1, 5, 2, 1, 5, 2, 1, 4), of(2, 1, 5, 2, 0, 5), of(0, 1, 0, 1, 3, 0, 1, 1, 0)
	tooMany := slices.Repeat(of(2, 1, 0), api.MaxPackets+1)
	slowGood, slowOld, slowNever := slow(api.Packet{Flow: 2, Size: 1, At: 999}), slow(api.Packet{Size: 1}), slow(api.Packet{Flow: 1, Size: 4, At: 999})
	for _, c := range []struct {
		name string
		l    []packets
		err  error
		at   int
	}{
		{"the only one is wrong", []packets{wrong}, api.ErrBound, 0},
		{"the only one is old", []packets{old}, api.ErrOld, 0},
		{"the only one never leaves", []packets{never}, api.ErrNone, 0},
		{"the only one has too many", []packets{tooMany}, api.ErrBound, 0},
		{"a packet without anything", []packets{nil, {{}}}, api.ErrBound, 1},
		{"the last one is wrong", []packets{nil, good, good, wrong}, api.ErrBound, 3},
		{"the last one is old", []packets{good, old}, api.ErrOld, 1},
		{"the last one never leaves", []packets{good, {}, never}, api.ErrNone, 2},
		{"wrong, then old", []packets{good, wrong, old}, api.ErrBound, 1},
		{"old, then wrong", []packets{good, old, wrong}, api.ErrOld, 1},
		{"never, then wrong, then old", []packets{nil, nil, never, wrong, old}, api.ErrNone, 2},
		{"too many, then never", []packets{good, tooMany, good, never}, api.ErrBound, 1},
		{"all of them", slices.Repeat([]packets{old}, most), api.ErrOld, 0},
		{"the last of as many as may be", append(slices.Repeat([]packets{good}, most-1), never), api.ErrNone, most - 1},
		{"one that takes long, then those that do not", append([]packets{good, slowNever}, slices.Repeat([]packets{wrong}, most-2)...), api.ErrNone, 1},
		{"one that takes long to look at", append([]packets{slowOld}, slices.Repeat([]packets{wrong}, api.Workers)...), api.ErrOld, 0},
		{"all but those that take long", append(slices.Repeat([]packets{slowGood}, api.Workers), slices.Repeat([]packets{never, wrong, old}, 9)...), api.ErrNone, api.Workers},
	} {
		for range 3 {
			runsFail(t, c.name, g, c.l, c.err, c.at)
		}
	}
}

// P100: each place may be the first.
func TestRunsPlaces(t *testing.T) {
	g := by("fair", 1, line(5, 0))
	for at := range most {
		l := slices.Repeat([]packets{of(0, 5, 0, 1, 9, 1)}, most)
		l[at] = of(0, 5, 0, 0, 1, 1)
		for other := at + 7; other < most; other += 7 {
			l[other] = of(0, 5, 1, 0, 1, 0)
		}
		for _, workers := range []int{1, 2, 5, api.Workers} {
			if got, err := side.Runs(g, l, workers); len(got) != 0 || !isFault(err, api.ErrNone, at) {
				t.Error(at, workers, got, err)
			}
		}
	}
}
