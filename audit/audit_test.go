package audit_test

import (
	"math"
	"slices"
	"testing"

	"floodgate/api"
	"floodgate/audit"
)

type (
	packets = []api.Packet
	sents   = []api.Sent
)

const (
	low  = math.MinInt
	high = math.MaxInt
	end  = api.MaxTime
	bare = -1 // the place of an error that has none
)

// of makes packets of their Flows, Sizes and Ats, by turns.
func of(numbers ...int) packets {
	var out packets
	for i := 0; i < len(numbers); i += 3 {
		out = append(out, api.Packet{Flow: numbers[i], Size: numbers[i+1], At: numbers[i+2]})
	}
	return out
}

// sent packets, of their numbers, Froms and Tos, by turns.
func sent(numbers ...int) sents {
	var out sents
	for i := 0; i < len(numbers); i += 3 {
		out = append(out, api.Sent{Packet: numbers[i], From: numbers[i+1], To: numbers[i+2]})
	}
	return out
}

// isFault tells whether err is just this error, at this place or bare.
func isFault(err, want error, at int) bool {
	if at == bare {
		return err == want
	}
	f, ok := err.(*api.Fault)
	return ok && f.At == at && f.Err == want
}

// P70: what a link may do.
func TestCheckWell(t *testing.T) {
	four := of(0, 3, 5, 1, 1, 5, 0, 2, 6, 1, 1, 40)
	for _, c := range []struct {
		name string
		p    packets
		per  int
		l    sents
	}{
		{"no lists", nil, 1, nil},
		{"no packets, nothing sent", packets{}, api.MaxPer, sents{}},
		{"one", of(1, 3, 5), 2, sent(0, 5, 11)},
		{"one at tick 0", of(1, 3, 0), 2, sent(0, 0, 6)},
		{"in order", four, 2, sent(0, 5, 11, 1, 11, 13, 2, 13, 17, 3, 40, 42)},
		{"another flow first", four, 2, sent(1, 5, 7, 0, 7, 13, 2, 13, 17, 3, 40, 42)},
		{"another flow last", four, 2, sent(0, 5, 11, 2, 11, 15, 1, 15, 17, 3, 40, 42)},
		{"of one tick, in any order of flows", of(0, 3, 4, 1, 2, 4, 2, 1, 4), 1, sent(2, 4, 5, 0, 5, 8, 1, 8, 10)},
		{"of one tick and one flow", of(2, 3, 4, 2, 2, 4, 2, 1, 4), 1, sent(0, 4, 7, 1, 7, 9, 2, 9, 10)},
		{"each flow in its order", of(0, 1, 0, 1, 1, 0, 0, 1, 0, 1, 1, 0), 1, sent(1, 0, 1, 3, 1, 2, 0, 2, 3, 2, 3, 4)},
		{"one that waits long", of(3, 1, 0, 0, 2, 0, 0, 2, 1, 0, 2, 3), 1, sent(1, 0, 2, 2, 2, 4, 3, 4, 6, 0, 6, 7)},
		{"just when the link is free", of(0, 3, 5, 1, 1, 11), 2, sent(0, 5, 11, 1, 11, 13)},
		{"just when the link is free, ahead of one that waits", of(0, 3, 5, 1, 4, 6, 0, 1, 11), 2, sent(0, 5, 11, 2, 11, 13, 1, 13, 21)},
		{"idle up to a packet's very tick", of(0, 3, 5, 1, 1, 12), 2, sent(0, 5, 11, 1, 12, 14)},
		{"idle up to the tick of two", of(0, 3, 5, 0, 1, 12, 1, 2, 12), 2, sent(0, 5, 11, 2, 12, 16, 1, 16, 18)},
		{"idle, though others come still later", of(0, 3, 5, 0, 1, 12, 1, 2, 13, 1, 1, 90), 2, sent(0, 5, 11, 1, 12, 14, 2, 14, 18, 3, 90, 92)},
		{"idle for long", of(0, 1, 0, 0, 1, end), api.MaxPer, sent(0, 0, 1000, 1, end, end+1000)},
		{"the greatest, at the last tick", of(0, api.MaxSize, end, 7, api.MaxSize, end), api.MaxPer, sent(1, end, end+1500000, 0, end+1500000, end+3000000)},
	} {
		if err := audit.Check(c.p, c.per, c.l); err != nil {
			t.Error(c.name, err)
		}
	}
}

// P70: each of its errors, and where.
func TestCheckFaults(t *testing.T) {
	two, twoFlows := of(0, 3, 5, 0, 1, 5), of(0, 3, 5, 1, 1, 5)
	three := of(0, 3, 5, 0, 1, 5, 0, 1, 9)
	for _, c := range []struct {
		name string
		p    packets
		l    sents
		err  error
		at   int
	}{
		{"a packet of no packets", nil, sent(0, 0, 1), api.ErrNone, 0},
		{"a number that is too great by one", two, sent(2, 5, 7), api.ErrNone, 0},
		{"a number below 0", two, sent(0, 5, 11, -1, 11, 13), api.ErrNone, 1},
		{"the least number", two, sent(low, 5, 11, 1, 11, 13), api.ErrNone, 0},
		{"the greatest number", two, sent(0, 5, 11, 1, 11, 13, high, 13, 15), api.ErrNone, 2},
		{"what lies behind the list's length", two[:1], sent(0, 5, 11, 1, 11, 13), api.ErrNone, 1},
		{"twice, one behind the other", two, sent(0, 5, 11, 0, 11, 17), api.ErrNone, 1},
		{"twice, one between", twoFlows, sent(0, 5, 11, 1, 11, 13, 0, 13, 19), api.ErrNone, 2},
		{"twice, one of its flow between", two, sent(0, 5, 11, 1, 11, 13, 0, 13, 19), api.ErrNone, 2},
		{"twice, an idle time between", of(0, 3, 5, 1, 1, 30), sent(0, 5, 11, 1, 30, 32, 0, 32, 38), api.ErrNone, 2},
		{"just the same, twice", two, sent(0, 5, 11, 0, 5, 11), api.ErrNone, 1},
		{"the first one of two faults", two, sent(7, 5, 11, 8, 11, 13), api.ErrNone, 0},

		{"a tick ahead of its At", two, sent(0, 4, 10, 1, 10, 12), api.ErrOld, 0},
		{"a tick ahead of its At, and behind the To ahead", of(0, 3, 5, 1, 1, 20), sent(0, 5, 11, 1, 19, 21), api.ErrOld, 1},
		{"at the To ahead, ahead of its At", of(0, 3, 5, 1, 1, 12), sent(0, 5, 11, 1, 11, 13), api.ErrOld, 1},
		{"a tick ahead of the To ahead", two, sent(0, 5, 11, 1, 10, 12), api.ErrOld, 1},
		{"while another one is sent", twoFlows, sent(1, 5, 7, 0, 5, 11), api.ErrOld, 1},
		{"ahead of the last To, not of one further ahead", three, sent(0, 5, 11, 1, 11, 13, 2, 12, 14), api.ErrOld, 2},
		{"below 0", of(0, 1, 0), sent(0, -1, 1), api.ErrOld, 0},
		{"far below 0", of(0, 1, 0), sent(0, -1<<59, -1<<59+2), api.ErrOld, 0},

		{"through a tick too soon", two, sent(0, 5, 10, 1, 10, 12), api.ErrShape, 0},
		{"through a tick too late", two, sent(0, 5, 11, 1, 11, 14), api.ErrShape, 1},
		{"through at once", two, sent(0, 5, 5, 1, 5, 7), api.ErrShape, 0},
		{"a byte in a tick", two, sent(0, 5, 8, 1, 8, 9), api.ErrShape, 0},
		{"through ahead of its begin", two, sent(0, 5, -1, 1, 5, 7), api.ErrShape, 0},
		{"the Size of another one", twoFlows, sent(1, 5, 11, 0, 11, 13), api.ErrShape, 0},
		{"far too late", two, sent(0, 5, 1<<59), api.ErrShape, 0},

		{"idle ahead of the first", of(0, 1, 0), sent(0, 1, 3), api.ErrIdle, 0},
		{"idle for a tick, as its own has come", two, sent(0, 6, 12, 1, 12, 14), api.ErrIdle, 0},
		{"idle for a tick behind another one", two, sent(0, 5, 11, 1, 12, 14), api.ErrIdle, 1},
		{"idle from some tick on, as its own has come", of(0, 3, 5, 1, 1, 20), sent(0, 5, 11, 1, 21, 23), api.ErrIdle, 1},
		{"idle though one has come that is sent next", of(0, 3, 5, 1, 1, 6), sent(1, 6, 8, 0, 8, 14), api.ErrIdle, 0},
		{"idle though one has come that is sent much later", of(0, 1, 0, 1, 1, 2, 2, 1, 3, 2, 1, 4), sent(0, 0, 2, 2, 3, 5, 3, 5, 7, 1, 7, 9), api.ErrIdle, 1},
		{"idle though one has come that is never sent", of(0, 3, 5, 1, 1, 6), sent(1, 6, 8), api.ErrIdle, 0},
		{"idle though one has come while another one was sent", of(0, 3, 5, 1, 1, 6, 2, 1, 30), sent(0, 5, 11, 2, 30, 32, 1, 32, 34), api.ErrIdle, 1},
		{"idle though one has come just when the link was free", of(0, 3, 5, 1, 1, 11, 2, 1, 30), sent(0, 5, 11, 2, 30, 32, 1, 32, 34), api.ErrIdle, 1},
		{"idle though one has come a tick ahead", of(0, 3, 5, 1, 1, 29, 2, 1, 30), sent(0, 5, 11, 2, 30, 32, 1, 32, 34), api.ErrIdle, 1},
		{"idle for long", of(0, 1, end), sent(0, 1<<59, 1<<59+2), api.ErrIdle, 0},

		{"out of its turn", two, sent(1, 5, 7, 0, 7, 13), api.ErrTurn, 0},
		{"out of its turn, later ones", three, sent(0, 5, 11, 2, 11, 13, 1, 13, 15), api.ErrTurn, 1},
		{"out of its turn, behind another flow", of(1, 1, 0, 0, 2, 0, 0, 3, 0), sent(0, 0, 2, 2, 2, 8, 1, 8, 12), api.ErrTurn, 1},
		{"the first one of two that are out of their turn", of(0, 3, 5, 0, 1, 5, 0, 1, 5), sent(2, 5, 7, 1, 7, 9, 0, 9, 15), api.ErrTurn, 0},
		{"one ahead of it is never sent", two, sent(1, 5, 7), api.ErrTurn, 0},
		{"the one ahead was, another one was not", three, sent(1, 5, 7, 2, 9, 11), api.ErrTurn, 0},
		{"one far ahead", of(0, 1, 0, 1, 1, 0, 2, 1, 0, 0, 1, 0), sent(1, 0, 2, 3, 2, 4, 0, 4, 6, 2, 6, 8), api.ErrTurn, 1},

		{"nothing is sent", two, nil, api.ErrNone, bare},
		{"the last one is never sent", two, sent(0, 5, 11), api.ErrNone, bare},
		{"one of another flow is never sent", twoFlows, sent(1, 5, 7), api.ErrNone, bare},
		{"one that comes at the very tick is never sent", of(0, 3, 5, 1, 1, 20, 2, 1, 20), sent(0, 5, 11, 2, 20, 22), api.ErrNone, bare},
		{"one is never sent while the link is busy", of(0, 3, 5, 1, 1, 6, 2, 1, 7), sent(0, 5, 11, 2, 11, 13), api.ErrNone, bare},
		{"one is never sent, and one is not well", twoFlows, sent(1, 5, 8), api.ErrShape, 0},
	} {
		if err := audit.Check(c.p, 2, c.l); !isFault(err, c.err, c.at) {
			t.Error(c.name, err)
		}
	}
}

// P70: of one that is wrong in more ways than one, the first one that is named; at any place. (Ways: bits, in the order in which they are named.)
func TestCheckFirst(t *testing.T) {
	const none, old, shape, idle, turn = 1, 2, 4, 8, 16
	errs := []error{api.ErrNone, api.ErrOld, api.ErrShape, api.ErrIdle, api.ErrTurn}
	for ways := range 32 {
		for ahead := range 4 {
			is := func(way int) bool { return ways&way != 0 }
			pick := func(way, yes, no int) int {
				if is(way) {
					return yes
				}
				return no
			}
			p, l := packets{}, sents{}
			for i := range ahead {
				p = append(p, api.Packet{Flow: 7, Size: 1, At: i})
				l = append(l, api.Sent{Packet: i, From: i, To: i + 1})
			}
			p = append(p, api.Packet{Flow: pick(turn, 3, 4), Size: 5, At: pick(idle, 15, 20)}, api.Packet{Flow: 3, Size: 2, At: 20})
			from := pick(old, 19, 20)
			l = append(l, api.Sent{Packet: pick(none, ahead+2, ahead+1), From: from, To: from + pick(shape, 3, 2)})

			err, at := api.ErrNone, bare // as one is never sent
			for way, e := range errs {
				if is(1 << way) {
					err, at = e, ahead
					break
				}
			}
			if got := audit.Check(p, 1, l); !isFault(got, err, at) {
				t.Error(ways, ahead, got)
			}
			l = append(l, api.Sent{Packet: ahead, From: 22, To: 27})
			if ways == 0 {
				err = nil
			}
			if got := audit.Check(p, 1, l); !isFault(got, err, at) {
				t.Error(ways, ahead, "and another one behind", got)
			}
		}
	}
}

// P70: of one that was sent ahead, the first error, too.
func TestCheckAgainFirst(t *testing.T) {
	p := of(0, 1, 0, 0, 3, 5, 0, 1, 5)
	for _, x := range sent(0, 8, 9, 0, 7, 8, 0, 8, 99, 0, 20, 21, 0, -5, 5, 1, 2, 3, 1, 1<<59, -1<<59) {
		if err := audit.Check(p, 1, append(sent(0, 0, 1, 1, 5, 8), x)); !isFault(err, api.ErrNone, 2) {
			t.Error(x, err)
		}
	}
}

// P70: of a list that is well but for one, the number of that one; what is behind it does not count.
func TestCheckPlace(t *testing.T) {
	const many = api.MaxPackets
	p, well := make(packets, many), make(sents, many)
	for i := range p {
		p[i] = api.Packet{Flow: i % api.MaxFlows, Size: api.MaxSize, At: i * 2000000}
		well[i] = api.Sent{Packet: i, From: i * 2000000, To: i*2000000 + 1500000}
	}
	if err := audit.Check(p, api.MaxPer, well); err != nil {
		t.Fatal(err)
	}
	for at := range many {
		for _, c := range []struct {
			err   error
			wrong api.Sent
		}{
			{api.ErrNone, api.Sent{Packet: many, From: well[at].From, To: well[at].To}},
			{api.ErrOld, api.Sent{Packet: at, From: well[at].From - 1, To: well[at].To - 1}},
			{api.ErrShape, api.Sent{Packet: at, From: well[at].From, To: well[at].To + 1}},
			{api.ErrIdle, api.Sent{Packet: at, From: well[at].From + 1, To: well[at].To + 1}},
		} {
			l := slices.Clone(well)
			l[at] = c.wrong
			if err := audit.Check(p, api.MaxPer, l); !isFault(err, c.err, at) {
				t.Error(at, c.err, err)
			}
			for i := at + 1; i < many; i += 2 {
				l[i] = api.Sent{Packet: -i, From: -i, To: i}
			}
			if err := audit.Check(p, api.MaxPer, l); !isFault(err, c.err, at) {
				t.Error(at, c.err, err, "and others behind")
			}
		}
		want := many
		if at > 0 {
			want = at
		}
		again := slices.Insert(slices.Clone(well), want, well[at/2])
		if err := audit.Check(p, api.MaxPer, again); !isFault(err, api.ErrNone, want) {
			t.Error(at, err)
		}
		if err := audit.Check(p, api.MaxPer, well[:at]); !isFault(err, api.ErrNone, bare) {
			t.Error(at, err)
		}
	}
}

// wrongPackets, with the error and the place that they have.
var wrongPackets = []struct {
	p   packets
	err error
	at  int
}{
	{slices.Repeat(of(1, 1, 7), api.MaxPackets+1), api.ErrBound, bare},
	{make(packets, api.MaxPackets+1), api.ErrBound, bare},
	{of(-1, 1, 0), api.ErrBound, 0},
	{of(api.MaxFlows, 1, 0), api.ErrBound, 0},
	{of(0, 0, 0), api.ErrBound, 0},
	{of(0, api.MaxSize+1, 0), api.ErrBound, 0},
	{of(0, 1, -1), api.ErrBound, 0},
	{of(0, 1, api.MaxTime+1), api.ErrBound, 0},
	{of(low, high, high), api.ErrBound, 0},
	{of(0, 1, 5, 0, 1, 4), api.ErrOld, 1},
	{of(0, 1, 5, 0, 0, 4), api.ErrBound, 1},
	{of(0, 1, 5, 0, 1, 5, 0, 1, 4, 0, 0, 5), api.ErrOld, 2},
}

// P70: wrong packets; only then a wrong link; only then what was sent.
func TestCheckArguments(t *testing.T) {
	wrongPers := []int{0, -1, api.MaxPer + 1, low, high}
	lists := []sents{nil, sent(0, 0, 1), sent(9, 9, 9), sent(0, 0, 1, 0, 0, 1), slices.Repeat(sent(0, 0, 1), 999)}
	for _, l := range lists {
		for _, per := range wrongPers {
			for _, p := range []packets{nil, {}, of(0, 1, 0)} {
				if err := audit.Check(p, per, l); err != api.ErrBound {
					t.Error(p, per, len(l), err)
				}
			}
		}
		for _, c := range wrongPackets {
			for _, per := range append(wrongPers, 1, api.MaxPer) {
				if err := audit.Check(c.p, per, l); !isFault(err, c.err, c.at) {
					t.Error(c.p, per, len(l), err)
				}
			}
		}
	}
	for _, per := range []int{1, 2, api.MaxPer} {
		if err := audit.Check(of(0, 1, 0), per, sent(0, 0, per)); err != nil {
			t.Error(per, err)
		}
	}
}

// P71.
func TestBytes(t *testing.T) {
	p := of(0, 3, 5, 1, 1, 5, 0, 2, 6, 1, 10, 40)
	l := sent(1, 5, 7, 0, 7, 13, 2, 13, 17, 3, 40, 60)
	for _, c := range []struct {
		name           string
		p              packets
		l              sents
		flow, from, to int
		want           int
	}{
		{"no lists", nil, nil, 0, 0, 100, 0},
		{"nothing is sent", p, nil, 0, 0, 100, 0},
		{"all of a flow", p, l, 0, 0, 100, 5},
		{"all of another one", p, l, 1, 0, 100, 11},
		{"a flow without packets", p, l, 7, 0, 100, 0},
		{"from a To on: not that one", p, l, 0, 13, 100, 2},
		{"from a tick ahead of a To on", p, l, 0, 12, 100, 5},
		{"up to a To: that one, too", p, l, 0, 0, 13, 3},
		{"up to a tick ahead of a To", p, l, 0, 0, 12, 0},
		{"up to a tick behind a To", p, l, 0, 0, 14, 3},
		{"from a To to the next one", p, l, 0, 13, 17, 2},
		{"just one tick", p, l, 0, 12, 13, 3},
		{"just one tick, the other flow", p, l, 1, 12, 13, 0},
		{"one that is being sent at from counts", p, l, 1, 50, 60, 10},
		{"one that is being sent at to does not", p, l, 1, 39, 59, 0},
		{"From does not count", p, l, 1, 39, 41, 0},
		{"from at to", p, l, 0, 13, 13, 0},
		{"from at to, of no To", p, l, 0, 12, 12, 0},
		{"from more than to by one", p, l, 0, 13, 12, 0},
		{"from more than to", p, l, 0, 100, 0, 0},
		{"the other way round than all", p, l, 1, high, low, 0},
		{"all ticks", p, l, 1, low, high, 11},
		{"below 0", p, l, 1, -100, 7, 1},
		{"below 0 alone", p, l, 1, -100, -1, 0},
		// What is no such list, as nobody asks for one.
		{"twice", p, sent(0, 5, 11, 0, 11, 17), 0, 0, 100, 6},
		{"twice, once of it within", p, sent(0, 5, 11, 0, 11, 17), 0, 11, 100, 3},
		{"in any order", p, sent(2, 90, 4, 0, 0, 90, 2, 7, 3), 0, 3, 4, 2},
		{"ahead of 0", p, sent(0, 0, -5, 2, 0, 0), 0, -6, -1, 3},
		{"ahead of 0, just up to it", p, sent(0, 0, -5, 2, 0, 0), 0, -5, 0, 2},
		{"as far as may be", p, sent(0, 0, high, 2, 0, low), 0, low, high, 3},
		{"as far as may be, but for a tick", p, sent(0, 0, high, 2, 0, low), 0, low, high - 1, 0},
		{"more than there are packets", of(3, api.MaxSize, 0), slices.Repeat(sent(0, 0, 5), 1000), 3, 4, 5, 1500000},
	} {
		if n, err := audit.Bytes(c.p, c.l, c.flow, c.from, c.to); n != c.want || err != nil {
			t.Error(c.name, n, err)
		}
	}
}

// P71: each flow, by its number.
func TestBytesFlows(t *testing.T) {
	var p packets
	var l sents
	for flow := range api.MaxFlows {
		p = append(p, api.Packet{Flow: flow, Size: 1 << flow})
		l = append(l, api.Sent{Packet: flow, To: 9})
	}
	for flow := range api.MaxFlows {
		if n, err := audit.Bytes(p, l, flow, 8, 9); n != 1<<flow || err != nil {
			t.Error(flow, n, err)
		}
	}
}

// P71: wrong packets; only then a packet that there is not; only then a flow that there is not; never the ticks.
func TestBytesFaults(t *testing.T) {
	p := of(0, 3, 5, 0, 1, 5)
	wrongFlows := []int{-1, api.MaxFlows, low, high}
	ticks := [][2]int{{0, 100}, {100, 0}, {low, high}, {high, low}}
	for _, two := range ticks {
		for _, flow := range append(wrongFlows, 0) {
			for _, c := range wrongPackets {
				for _, l := range []sents{nil, sent(0, 0, 99), sent(999, 0, 0)} {
					if n, err := audit.Bytes(c.p, l, flow, two[0], two[1]); n != 0 || !isFault(err, c.err, c.at) {
						t.Error(c.p, l, flow, two, n, err)
					}
				}
			}
			for _, c := range []struct {
				p  packets
				l  sents
				at int
			}{
				{nil, sent(0, 0, 0), 0},
				{p, sent(0, 0, 99, 2, 0, 99), 1},
				{p, sent(-1, 0, 99), 0},
				{p, sent(0, 0, 99, 1, 0, 99, low, 0, 9, high, 0, 9), 2},
				{p, sent(high, 0, 99, 0, 0, 99), 0},
				{p[:1], sent(0, 0, 9, 1, 0, 9), 1}, // what lies behind a list's length is no packet of it
			} {
				if n, err := audit.Bytes(c.p, c.l, flow, two[0], two[1]); n != 0 || !isFault(err, api.ErrNone, c.at) {
					t.Error(c.p, c.l, flow, two, n, err)
				}
			}
		}
		for _, flow := range wrongFlows {
			for _, l := range []sents{nil, sent(0, 5, 8, 1, 8, 9)} {
				if n, err := audit.Bytes(p, l, flow, two[0], two[1]); n != 0 || err != api.ErrBound {
					t.Error(l, flow, two, n, err)
				}
			}
		}
	}
}

// P2, P4: what is handed over is only read, and the answer is the same each time.
func TestMemory(t *testing.T) {
	all, allSent := of(0, 3, 5, 1, 1, 5, 0, 2, 30, 9, 9, 9), sent(1, 5, 7, 0, 7, 13, 2, 30, 34, 9, 34, 99)
	p, l := all[:3], allSent[:3]
	before, sentBefore := slices.Clone(all), slices.Clone(allSent)
	for range 3 {
		e1, e2, e3 := audit.Check(p, 2, l), audit.Check(p, 2, l[:2]), audit.Check(p, 1, l)
		n, e4 := audit.Bytes(p, l, 0, 12, 34)
		if e1 != nil || e2 != api.ErrNone || !isFault(e3, api.ErrShape, 0) || n != 5 || e4 != nil {
			t.Fatal(e1, e2, e3, n, e4)
		}
		// A fault is new each time, as whoever gets it may write into it.
		*e3.(*api.Fault) = api.Fault{}
		if !slices.Equal(all, before) || !slices.Equal(allSent, sentBefore) {
			t.Fatal(all, allSent)
		}
	}
}
