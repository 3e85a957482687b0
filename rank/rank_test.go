package rank_test

import (
	"math"
	"slices"
	"testing"

	"floodgate/api"
	"floodgate/fifo"
	"floodgate/rank"
)

type (
	packets = []api.Packet
	sents   = []api.Sent
)

// of makes packets of their Flows, Sizes and Ats, by turns.
func of(numbers ...int) packets {
	var out packets
	for i := 0; i < len(numbers); i += 3 {
		out = append(out, api.Packet{Flow: numbers[i], Size: numbers[i+1], At: numbers[i+2]})
	}
	return out
}

// sent packets, of their numbers, Froms and Tos, by turns.
func sent(numbers ...int) sents {
	var out sents
	for i := 0; i < len(numbers); i += 3 {
		out = append(out, api.Sent{Packet: numbers[i], From: numbers[i+1], To: numbers[i+2]})
	}
	return out
}

// each flow's number: those of the first ones, 0 for the others.
func each(first ...int) []int {
	return append(first, make([]int, api.MaxFlows-len(first))...)
}

// isFault tells whether err is just this error, at this place or bare (-1).
func isFault(err, want error, at int) bool {
	if at < 0 {
		return err == want
	}
	f, ok := err.(*api.Fault)
	return ok && f.At == at && f.Err == want
}

// P40.
func TestRun(t *testing.T) {
	const end = api.MaxTime
	for _, c := range []struct {
		name  string
		p     packets
		per   int
		ranks []int
		want  sents
	}{
		{"no list", nil, 1, each(), nil},
		{"no packets", packets{}, api.MaxPer, each(100), nil},
		{"one", of(1, 3, 5), 2, each(0, 7), sent(0, 5, 11)},
		{"of one tick, by rank", of(0, 3, 4, 1, 2, 4, 2, 1, 4), 1, each(2, 1, 0), sent(2, 4, 5, 1, 5, 7, 0, 7, 10)},
		{"of one tick and one rank", of(2, 3, 4, 1, 2, 4, 0, 1, 4), 1, each(5, 5, 5), sent(0, 4, 7, 1, 7, 9, 2, 9, 10)},
		{"of one tick and one flow", of(2, 3, 4, 2, 1, 4, 2, 2, 4), 1, each(0, 0, 9), sent(0, 4, 7, 1, 7, 8, 2, 8, 10)},
		{"two ranks, each in order", of(0, 1, 0, 1, 1, 0, 2, 1, 0, 3, 1, 0, 0, 1, 0), 1, each(4, 3, 4, 3), sent(1, 0, 1, 3, 1, 2, 0, 2, 3, 2, 3, 4, 4, 4, 5)},
		{"the rank of the flow, not its number", of(0, 1, 0, 7, 1, 0), 1, []int{1, 9, 9, 9, 9, 9, 9, 0}, sent(1, 0, 1, 0, 1, 2)},
		{"the least and the greatest rank", of(0, 1, 0, 1, 1, 0), 1, each(100, 0), sent(1, 0, 1, 0, 1, 2)},
		{"ranks beside each other", of(0, 1, 0, 1, 1, 0), 1, each(100, 99), sent(1, 0, 1, 0, 1, 2)},
		{"one that is being sent goes on", of(0, 5, 0, 1, 1, 1, 2, 1, 2), 2, each(9, 5, 1), sent(0, 0, 10, 2, 10, 12, 1, 12, 14)},
		{"one that waits long lets others pass", of(1, 1, 0, 0, 2, 0, 0, 2, 1, 0, 2, 3, 0, 2, 8), 1, each(0, 1), sent(1, 0, 2, 2, 2, 4, 3, 4, 6, 0, 6, 7, 4, 8, 10)},
		{"just when the link is free", of(1, 3, 5, 1, 1, 6, 0, 1, 11), 2, each(0, 1), sent(0, 5, 11, 2, 11, 13, 1, 13, 15)},
		{"a tick behind that", of(1, 3, 5, 1, 1, 6, 0, 1, 12), 2, each(0, 1), sent(0, 5, 11, 1, 11, 13, 2, 13, 15)},
		{"just when the link is free, and none waits", of(1, 3, 5, 0, 1, 11), 2, each(0, 1), sent(0, 5, 11, 1, 11, 13)},
		{"idle between two", of(1, 3, 5, 0, 1, 30), 2, each(0, 1), sent(0, 5, 11, 1, 30, 32)},
		{"idle, and then two at once", of(1, 1, 0, 1, 2, 9, 0, 2, 9), 1, each(0, 1), sent(0, 0, 1, 2, 9, 11, 1, 11, 13)},
		{"the link waits for nobody of a lesser rank", of(1, 1, 4, 0, 1, 5), 9, each(0, 100), sent(0, 4, 13, 1, 13, 22)},
		{"the greatest, at the last tick", of(0, api.MaxSize, end, 7, api.MaxSize, end), api.MaxPer, each(1), sent(1, end, end+1500000, 0, end+1500000, end+3000000)},
	} {
		if l, err := rank.Run(c.p, c.per, c.ranks); !slices.Equal(l, c.want) || err != nil {
			t.Error(c.name, l, err)
		}
	}
}

// P41.
func TestDeadlines(t *testing.T) {
	const end = api.MaxTime
	for _, c := range []struct {
		name string
		p    packets
		per  int
		dues []int
		want sents
	}{
		{"no list", nil, 1, each(), nil},
		{"no packets", packets{}, api.MaxPer, each(end), nil},
		{"one", of(1, 3, 5), 2, each(0, 7), sent(0, 5, 11)},
		{"of one tick, by due", of(0, 3, 4, 1, 2, 4, 2, 1, 4), 1, each(200, 101, 0), sent(2, 4, 5, 1, 5, 7, 0, 7, 10)},
		{"of one tick and one due", of(2, 3, 4, 1, 2, 4, 0, 1, 4), 1, each(5, 5, 5), sent(0, 4, 7, 1, 7, 9, 2, 9, 10)},
		{"of one flow, in order", of(2, 3, 0, 2, 1, 0, 2, 2, 1), 1, each(0, 0, 9), sent(0, 0, 3, 1, 3, 4, 2, 4, 6)},
		{"At and due together", of(3, 9, 0, 0, 1, 1, 1, 1, 4), 1, each(10, 6), sent(0, 0, 9, 2, 9, 10, 1, 10, 11)},
		{"at one deadline, the first", of(3, 9, 0, 0, 1, 1, 1, 1, 4, 2, 1, 5), 1, each(10, 7, 6), sent(0, 0, 9, 1, 9, 10, 2, 10, 11, 3, 11, 12)},
		{"the lesser due does not count alone", of(3, 9, 0, 0, 1, 1, 1, 1, 5), 1, each(10, 7), sent(0, 0, 9, 1, 9, 10, 2, 10, 11)},
		{"a due that is over", of(0, 20, 0, 1, 1, 1, 2, 1, 2), 1, each(0, 3, 1), sent(0, 0, 20, 2, 20, 21, 1, 21, 22)},
		{"one that is being sent goes on", of(0, 5, 0, 1, 1, 1), 2, each(90, 0), sent(0, 0, 10, 1, 10, 12)},
		{"just when the link is free", of(1, 3, 5, 1, 1, 6, 0, 1, 11), 2, each(0, 9), sent(0, 5, 11, 2, 11, 13, 1, 13, 15)},
		{"a tick behind that", of(1, 3, 5, 1, 1, 6, 0, 1, 12), 2, each(0, 9), sent(0, 5, 11, 1, 11, 13, 2, 13, 15)},
		{"idle between two", of(1, 3, 5, 0, 1, 30), 2, each(0, 90), sent(0, 5, 11, 1, 30, 32)},
		{"idle, and then two at once", of(1, 1, 0, 1, 2, 9, 0, 2, 9), 1, each(0, 1), sent(0, 0, 1, 2, 9, 11, 1, 11, 13)},
		{"the greatest, at the last tick", of(0, api.MaxSize, end, 7, api.MaxSize, end), api.MaxPer, each(end), sent(1, end, end+1500000, 0, end+1500000, end+3000000)},
		{"the greatest dues", of(0, 1, end, 1, 1, end), 1, each(end, end-1), sent(1, end, end+1, 0, end+1, end+2)},
	} {
		if l, err := rank.Deadlines(c.p, c.per, c.dues); !slices.Equal(l, c.want) || err != nil {
			t.Error(c.name, l, err)
		}
	}
}

// P40, P41: as many as may be, at once, the last ones first.
func TestMany(t *testing.T) {
	p := slices.Repeat(of(3, api.MaxSize, 9, 1, api.MaxSize, 9), api.MaxPackets/2)
	for name, run := range runs {
		l, err := run(p, api.MaxPer, each(0, 1, 0, 2))
		if len(l) != api.MaxPackets || err != nil {
			t.Fatal(name, len(l), err)
		}
		for i, x := range l {
			number := 2*i + 1
			if i >= api.MaxPackets/2 {
				number -= api.MaxPackets + 1
			}
			if want := (api.Sent{Packet: number, From: 9 + i*1500000, To: 9 + (i+1)*1500000}); x != want {
				t.Fatal(name, i, x, want)
			}
		}
	}
}

// runs of both kinds.
var runs = map[string]func([]api.Packet, int, []int) ([]api.Sent, error){"rank": rank.Run, "deadlines": rank.Deadlines}

// mostOf is the greatest number of a flow, of both kinds.
var mostOf = map[string]int{"rank": 100, "deadlines": api.MaxTime}

// wrongPackets, with the error and the place that they have (-1: a bare error).
var wrongPackets = []struct {
	p   packets
	err error
	at  int
}{
	{slices.Repeat(of(1, 1, 7), api.MaxPackets+1), api.ErrBound, -1},
	{make(packets, api.MaxPackets+1), api.ErrBound, -1},
	{of(-1, 1, 0), api.ErrBound, 0},
	{of(api.MaxFlows, 1, 0), api.ErrBound, 0},
	{of(0, 0, 0), api.ErrBound, 0},
	{of(0, api.MaxSize+1, 0), api.ErrBound, 0},
	{of(0, 1, -1), api.ErrBound, 0},
	{of(0, 1, api.MaxTime+1), api.ErrBound, 0},
	{of(math.MinInt, math.MaxInt, math.MaxInt), api.ErrBound, 0},
	{of(0, 1, 5, 0, 1, 4), api.ErrOld, 1},
	{of(0, 1, 5, 0, 0, 4), api.ErrBound, 1},
	{of(0, 1, 5, 0, 1, 5, 0, 1, 4, 0, 0, 5), api.ErrOld, 2},
}

// wrongNumbers of flows, that must be up to most, and the bare error that they have.
func wrongNumbers(most int) map[error][][]int {
	out := map[error][][]int{api.ErrShape: {
		nil, {}, {0}, make([]int, api.MaxFlows-1), make([]int, api.MaxFlows+1),
		{-1}, append(each(), -1), append(each(most+1), 0), // wrong in both ways
	}}
	for _, n := range []int{-1, most + 1, math.MinInt, math.MaxInt} {
		for flow := range api.MaxFlows {
			wrong := each()
			wrong[flow] = n
			out[api.ErrBound] = append(out[api.ErrBound], wrong)
		}
	}
	return out
}

// P40, P41: wrong packets; only then a wrong link; only then wrong numbers of flows.
func TestRunFaults(t *testing.T) {
	wrongPers := []int{0, -1, api.MaxPer + 1, math.MinInt, math.MaxInt}
	for name, run := range runs {
		wrong := wrongNumbers(mostOf[name])
		for err, lists := range wrong {
			for _, numbers := range lists {
				for _, p := range []packets{nil, {}, of(0, 1, 0)} {
					for _, per := range []int{1, api.MaxPer} {
						if l, got := run(p, per, numbers); len(l) != 0 || got != err {
							t.Error(name, p, per, numbers, l, got)
						}
					}
				}
			}
		}
		some := [][]int{each(), nil, wrong[api.ErrBound][0]}
		for _, numbers := range some {
			for _, per := range wrongPers {
				if l, err := run(of(0, 1, 0), per, numbers); len(l) != 0 || err != api.ErrBound {
					t.Error(name, per, numbers, l, err)
				}
			}
			for _, c := range wrongPackets {
				for _, per := range append(wrongPers, 1) {
					if l, err := run(c.p, per, numbers); len(l) != 0 || !isFault(err, c.err, c.at) {
						t.Error(name, c.p, per, numbers, l, err)
					}
				}
			}
		}
	}
}

// P40, P41: up to where a flow's number may go.
func TestBounds(t *testing.T) {
	for name, run := range runs {
		for flow := range api.MaxFlows {
			numbers := each()
			numbers[flow] = mostOf[name]
			if l, err := run(of(0, 1, 0), 1, numbers); !slices.Equal(l, sent(0, 0, 1)) || err != nil {
				t.Error(name, numbers, l, err)
			}
			if n, err := rank.Late(of(0, 1, 0), sent(0, 0, 1), numbers); n > 1 || err != nil {
				t.Error(numbers, n, err)
			}
		}
	}
}

// P41.
func TestLate(t *testing.T) {
	const end = api.MaxTime
	p := of(0, 3, 5, 1, 1, 5, 2, 2, 13)
	for _, c := range []struct {
		name string
		p    packets
		l    sents
		dues []int
		want int
	}{
		{"no lists", nil, nil, each(), 0},
		{"nothing is sent", p, nil, each(), 0},
		{"in time", p, sent(0, 5, 8, 1, 8, 9, 2, 13, 15), each(10, 10, 10), 0},
		{"just in time", p, sent(0, 5, 8, 1, 8, 9, 2, 13, 15), each(3, 4, 2), 0},
		{"by one tick", p, sent(0, 5, 8, 1, 8, 9, 2, 13, 15), each(3, 3, 2), 1},
		{"the last one", p, sent(0, 5, 8, 1, 8, 9, 2, 13, 15), each(3, 4, 1), 1},
		{"the first one", p, sent(0, 5, 8, 1, 8, 9, 2, 13, 15), each(2, 4, 2), 1},
		{"the most", p, sent(0, 5, 8, 1, 8, 9, 2, 13, 15), each(2, 1, 0), 3},
		{"due at once", p, sent(0, 5, 8, 1, 8, 9, 2, 13, 15), each(), 4},
		{"one is in time by more than others are late", p, sent(0, 5, 8, 1, 8, 9, 2, 13, 15), each(1, 100, 1), 2},
		{"only what is sent counts", p, sent(2, 13, 15), each(0, 0, 2), 0},
		{"by numbers, in any order", p, sent(2, 0, 20, 0, 0, 6, 1, 0, 5), each(0, 0, 6), 1},
		{"the flow's due, not the packet's", of(2, 1, 0, 2, 1, 0), sent(0, 0, 1, 1, 1, 2), each(9, 9, 1), 1},
		{"one, twice", p, sent(1, 0, 8, 1, 0, 9), each(), 4},
		{"through ahead of its tick", p, sent(2, 90, 10), each(), 0},
		{"From does not count", p, sent(2, 99, 14, 1, -99, 6), each(0, 0, 1), 1},
		{"far", of(0, 1, 0), sent(0, 0, 1<<59), each(end), 1<<59 - end},
		{"far ahead", of(0, 1, end), sent(0, 0, -1<<59), each(end), 0},
		{"as late as may be", of(0, 1, end), sent(0, 0, end+1), each(), 1},
	} {
		if n, err := rank.Late(c.p, c.l, c.dues); n != c.want || err != nil {
			t.Error(c.name, n, err)
		}
	}
}

// P41: wrong packets; only then wrong dues; only then a packet that there is not.
func TestLateFaults(t *testing.T) {
	p, none := of(0, 3, 5, 0, 1, 5), sent(0, 0, 99, 2, 0, 99)
	for _, c := range wrongPackets {
		for _, l := range []sents{nil, none, sent(999, 0, 0)} {
			for _, dues := range [][]int{each(), nil, each(-1)} {
				if n, err := rank.Late(c.p, l, dues); n != 0 || !isFault(err, c.err, c.at) {
					t.Error(c.p, l, dues, n, err)
				}
			}
		}
	}
	for err, lists := range wrongNumbers(api.MaxTime) {
		for _, dues := range lists {
			for _, l := range []sents{nil, none, none[:1]} {
				if n, got := rank.Late(p, l, dues); n != 0 || got != err {
					t.Error(l, dues, n, got)
				}
			}
		}
	}
	for _, c := range []struct {
		p  packets
		l  sents
		at int
	}{
		{nil, sent(0, 0, 0), 0},
		{p, none, 1},
		{p, sent(-1, 0, 99), 0},
		{p, sent(0, 0, 99, 1, 0, 99, math.MinInt, 0, 9, math.MaxInt, 0, 9), 2},
		{p, sent(math.MaxInt, 0, 99, 0, 0, 99), 0},
		{p[:1], sent(0, 0, 9, 1, 0, 9), 1}, // what lies behind a list's length is no packet of it
	} {
		if n, err := rank.Late(c.p, c.l, each()); n != 0 || !isFault(err, api.ErrNone, c.at) {
			t.Error(c.p, c.l, n, err)
		}
	}
}

// P2, P4: what is handed over is only read, what is answered is new, and the same each time.
func TestMemory(t *testing.T) {
	all, allSent := of(0, 3, 5, 1, 1, 5, 2, 2, 30, 9, 9, 9), sent(1, 5, 7, 0, 7, 13, 2, 30, 34, 9, 34, 99)
	allNumbers := append(each(8, 4, 0), -7, -7)
	p, l, numbers := all[:3], allSent[:3], allNumbers[:api.MaxFlows]
	before, sentBefore, numbersBefore := slices.Clone(all), slices.Clone(allSent), slices.Clone(allNumbers)
	for range 3 {
		x, e1 := rank.Run(p, 2, numbers)
		y, e2 := rank.Deadlines(p, 2, numbers)
		n, e3 := rank.Late(p, l, numbers)
		if !slices.Equal(x, l) || e1 != nil || !slices.Equal(y, l) || e2 != nil || n != 4 || e3 != nil {
			t.Fatal(x, e1, y, e2, n, e3)
		}
		clear(x[:cap(x)])
		clear(y[:cap(y)])
		if !slices.Equal(all, before) || !slices.Equal(allSent, sentBefore) || !slices.Equal(allNumbers, numbersBefore) {
			t.Fatal(all, allSent, allNumbers)
		}
	}
}

// P4: an answer does not change with what was handed over.
func TestAnswersStay(t *testing.T) {
	for name, run := range runs {
		p, numbers := of(0, 3, 5, 1, 1, 5), each(1)
		l, _ := run(p, 2, numbers)
		clear(p)
		clear(numbers)
		if !slices.Equal(l, sent(1, 5, 7, 0, 7, 13)) {
			t.Error(name, l)
		}
	}
}

// P40, P41: with the same rank for all, and with the same due for all, it is in order.
func TestAllTheSame(t *testing.T) {
	var s source
	for i := range 300 {
		p, per := s.packets(40, 20, 30), 1+s.below(4)
		want, _ := fifo.Run(p, per)
		for name, run := range runs {
			same := slices.Repeat([]int{i % 101}, api.MaxFlows)
			if l, err := run(p, per, same); !slices.Equal(l, want) || err != nil {
				t.Fatal(name, p, per, same, l, err)
			}
		}
	}
}
