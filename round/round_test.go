package round_test

import (
	"math"
	"slices"
	"testing"

	"floodgate/api"
	"floodgate/fifo"
	"floodgate/round"
)

type (
	packets = []api.Packet
	sents   = []api.Sent
)

// of makes packets of their Flows, Sizes and Ats, by turns.
func of(numbers ...int) packets {
	var out packets
	for i := 0; i < len(numbers); i += 3 {
		out = append(out, api.Packet{Flow: numbers[i], Size: numbers[i+1], At: numbers[i+2]})
	}
	return out
}

// sent packets, of their numbers, Froms and Tos, by turns.
func sent(numbers ...int) sents {
	var out sents
	for i := 0; i < len(numbers); i += 3 {
		out = append(out, api.Sent{Packet: numbers[i], From: numbers[i+1], To: numbers[i+2]})
	}
	return out
}

// each flow's quantum: those of the first ones, 10 for the others.
func each(first ...int) []int {
	return append(first, slices.Repeat([]int{10}, api.MaxFlows-len(first))...)
}

// isFault tells whether err is just this error, at this place or bare (-1).
func isFault(err, want error, at int) bool {
	if at < 0 {
		return err == want
	}
	f, ok := err.(*api.Fault)
	return ok && f.At == at && f.Err == want
}

// P50.
func TestRun(t *testing.T) {
	const end = api.MaxTime
	for _, c := range []struct {
		name   string
		p      packets
		per    int
		quanta []int
		want   sents
	}{
		{"no list", nil, 1, each(), nil},
		{"no packets", packets{}, api.MaxPer, each(api.MaxQuantum), nil},
		{"one", of(1, 3, 5), 2, each(), sent(0, 5, 11)},
		{"one of each flow, of one tick", of(2, 3, 4, 1, 2, 4, 0, 1, 4), 1, each(), sent(0, 4, 7, 1, 7, 9, 2, 9, 10)},
		{"as the document tells", of(0, 10, 0, 0, 10, 0, 1, 10, 0), 1, each(), sent(0, 0, 10, 2, 10, 20, 1, 20, 30)},
		{"of one flow, in order", of(3, 9, 0, 3, 1, 0, 3, 5, 0), 1, each(), sent(0, 0, 9, 1, 9, 10, 2, 10, 15)},
		{"just the credit", of(0, 10, 0, 1, 1, 0), 1, each(), sent(0, 0, 10, 1, 10, 11)},
		{"one more than the credit", of(0, 11, 0, 1, 1, 0), 1, each(), sent(1, 0, 1, 0, 1, 12)},
		{"by its own flow's quantum", of(0, 11, 0, 1, 1, 0), 1, each(11, 1), sent(0, 0, 11, 1, 11, 12)},
		{"a quantum of 1", of(0, 3, 0, 1, 2, 0), 1, each(1, 1), sent(1, 0, 2, 0, 2, 5)},
		{"quanta of 1, at one round the first", of(1, 2, 0, 0, 2, 0), 1, each(1, 1), sent(0, 0, 2, 1, 2, 4)},
		{"a credit that grows over 1500 rounds", of(0, 1500, 0, 1, 1499, 0, 2, 1500, 0), 1, each(1, 1, 1), sent(1, 0, 1499, 0, 1499, 2999, 2, 2999, 4499)},
		{"a flow alone, over 1500 rounds", of(7, 1500, 3), 2, slices.Repeat([]int{1}, 8), sent(0, 3, 3003)},
		{"more than one of a flow in one turn", of(0, 4, 0, 0, 4, 0, 0, 4, 0, 1, 4, 0, 1, 4, 0, 1, 4, 0), 1, each(), sent(0, 0, 4, 1, 4, 8, 3, 8, 12, 4, 12, 16, 2, 16, 20, 5, 20, 24)},
		{"credit is kept at the row's end", of(0, 6, 0, 0, 6, 0, 0, 6, 0, 1, 10, 0, 1, 10, 0), 1, each(), sent(0, 0, 6, 3, 6, 16, 1, 16, 22, 2, 22, 28, 4, 28, 38)},
		{"three times the quantum", of(0, 10, 0, 0, 10, 0, 0, 10, 0, 0, 10, 0, 1, 10, 0, 1, 10, 0), 1, each(30), sent(0, 0, 10, 1, 10, 20, 2, 20, 30, 4, 30, 40, 3, 40, 50, 5, 50, 60)},
		{"a served flow sends what comes meanwhile", of(0, 3, 0, 0, 3, 0, 1, 1, 1, 0, 3, 2), 1, each(), sent(0, 0, 3, 1, 3, 6, 3, 6, 9, 2, 9, 10)},
		{"a flow that comes meanwhile waits for its turn", of(0, 10, 0, 1, 10, 0, 0, 10, 0, 2, 1, 15), 1, each(), sent(0, 0, 10, 1, 10, 20, 2, 20, 30, 3, 30, 31)},
		{"to the row's end, behind one that comes just then", of(0, 10, 0, 0, 10, 0, 1, 10, 10), 1, each(), sent(0, 0, 10, 2, 10, 20, 1, 20, 30)},
		{"a tick behind that", of(0, 10, 0, 0, 10, 0, 1, 10, 11), 1, each(), sent(0, 0, 10, 1, 10, 20, 2, 20, 30)},
		{"empty, comes again meanwhile: to the row's end", of(0, 3, 0, 1, 8, 0, 0, 3, 1, 0, 3, 1), 1, each(), sent(0, 0, 3, 1, 3, 11, 2, 11, 14, 3, 14, 17)},
		{"empty, comes again meanwhile: without credit", of(0, 3, 0, 1, 8, 0, 1, 8, 0, 0, 12, 1), 1, each(), sent(0, 0, 3, 1, 3, 11, 2, 11, 19, 3, 19, 31)},
		{"empty, comes again just then, ahead of another", of(0, 3, 0, 0, 3, 3, 1, 8, 3), 1, each(), sent(0, 0, 3, 1, 3, 6, 2, 6, 14)},
		{"empty, comes again just then, behind another", of(0, 3, 0, 1, 8, 3, 0, 3, 3), 1, each(), sent(0, 0, 3, 1, 3, 11, 2, 11, 14)},
		{"empty, alone, comes again meanwhile: without credit", of(0, 3, 0, 0, 12, 1, 1, 8, 3), 1, each(), sent(0, 0, 3, 2, 3, 11, 1, 11, 23)},
		{"just when the link is free", of(0, 3, 5, 1, 1, 11), 2, each(), sent(0, 5, 11, 1, 11, 13)},
		{"idle between two", of(0, 3, 5, 1, 1, 30), 2, each(), sent(0, 5, 11, 1, 30, 32)},
		{"idle, and no credit behind it", of(0, 3, 0, 0, 12, 9, 1, 10, 9), 1, each(), sent(0, 0, 3, 2, 9, 19, 1, 19, 31)},
		{"idle, and then two at once", of(1, 1, 0, 1, 2, 9, 0, 2, 9), 1, each(), sent(0, 0, 1, 1, 9, 11, 2, 11, 13)},
		{"the greatest, at the last tick", of(0, api.MaxSize, end, 7, api.MaxSize, end), api.MaxPer, slices.Repeat([]int{api.MaxQuantum}, 8), sent(0, end, end+1500000, 1, end+1500000, end+3000000)},
	} {
		if l, err := round.Run(c.p, c.per, c.quanta); !slices.Equal(l, c.want) || err != nil {
			t.Error(c.name, l, err)
		}
	}
}

// P50: as many as may be, at once, by the least quanta and by the greatest.
func TestRunMany(t *testing.T) {
	p := slices.Concat(slices.Repeat(of(3, api.MaxSize, 9), api.MaxPackets/2), slices.Repeat(of(1, api.MaxSize, 9), api.MaxPackets/2))
	for _, quantum := range []int{1, api.MaxSize, api.MaxQuantum} {
		l, err := round.Run(p, api.MaxPer, slices.Repeat([]int{quantum}, api.MaxFlows))
		if len(l) != api.MaxPackets || err != nil {
			t.Fatal(quantum, len(l), err)
		}
		turn := max(1, quantum/api.MaxSize) // packets that a flow sends behind each other
		for i, x := range l {
			number := i/(2*turn)*turn + i%turn
			if i/turn%2 == 1 {
				number += api.MaxPackets / 2
			}
			if want := (api.Sent{Packet: number, From: 9 + i*1500000, To: 9 + (i+1)*1500000}); x != want {
				t.Fatal(quantum, i, x, want)
			}
		}
	}
}

// wrongPackets, with the error and the place that they have (-1: a bare error).
var wrongPackets = []struct {
	p   packets
	err error
	at  int
}{
	{slices.Repeat(of(1, 1, 7), api.MaxPackets+1), api.ErrBound, -1},
	{make(packets, api.MaxPackets+1), api.ErrBound, -1},
	{of(-1, 1, 0), api.ErrBound, 0},
	{of(api.MaxFlows, 1, 0), api.ErrBound, 0},
	{of(0, 0, 0), api.ErrBound, 0},
	{of(0, api.MaxSize+1, 0), api.ErrBound, 0},
	{of(0, 1, -1), api.ErrBound, 0},
	{of(0, 1, api.MaxTime+1), api.ErrBound, 0},
	{of(math.MinInt, math.MaxInt, math.MaxInt), api.ErrBound, 0},
	{of(0, 1, 5, 0, 1, 4), api.ErrOld, 1},
	{of(0, 1, 5, 0, 0, 4), api.ErrBound, 1},
	{of(0, 1, 5, 0, 1, 5, 0, 1, 4, 0, 0, 5), api.ErrOld, 2},
}

// wrongQuanta, and the bare error that they have.
func wrongQuanta() map[error][][]int {
	out := map[error][][]int{api.ErrShape: {
		nil, {}, {1}, each()[1:], append(each(), 1),
		{0}, append(each(), 0), append(each(api.MaxQuantum+1), 1), // wrong in both ways
	}}
	for _, n := range []int{0, -1, api.MaxQuantum + 1, math.MinInt, math.MaxInt} {
		for flow := range api.MaxFlows {
			wrong := each()
			wrong[flow] = n
			out[api.ErrBound] = append(out[api.ErrBound], wrong)
		}
	}
	return out
}

// P50: wrong packets; only then a wrong link; only then wrong quanta.
func TestRunFaults(t *testing.T) {
	wrongPers := []int{0, -1, api.MaxPer + 1, math.MinInt, math.MaxInt}
	for err, lists := range wrongQuanta() {
		for _, quanta := range lists {
			for _, p := range []packets{nil, {}, of(0, 1, 0)} {
				for _, per := range []int{1, api.MaxPer} {
					if l, got := round.Run(p, per, quanta); len(l) != 0 || got != err {
						t.Error(p, per, quanta, l, got)
					}
				}
			}
		}
	}
	for _, quanta := range [][]int{each(), nil, each(0)} {
		for _, per := range wrongPers {
			for _, p := range []packets{nil, of(0, 1, 0)} {
				if l, err := round.Run(p, per, quanta); len(l) != 0 || err != api.ErrBound {
					t.Error(p, per, quanta, l, err)
				}
			}
		}
		for _, c := range wrongPackets {
			for _, per := range append(wrongPers, 1) {
				if l, err := round.Run(c.p, per, quanta); len(l) != 0 || !isFault(err, c.err, c.at) {
					t.Error(c.p, per, quanta, l, err)
				}
			}
		}
	}
}

// P50, P51: up to where a quantum may go.
func TestQuanta(t *testing.T) {
	for _, quantum := range []int{1, api.MaxQuantum} {
		for flow := range api.MaxFlows {
			quanta := each()
			quanta[flow] = quantum
			if l, err := round.Run(of(0, 1, 0), 1, quanta); !slices.Equal(l, sent(0, 0, 1)) || err != nil {
				t.Error(quanta, l, err)
			}
			if n, err := round.Spread(of(0, 1, 0), sent(0, 0, 1), quanta, 0, flow); n != 0 || err != nil {
				t.Error(quanta, n, err)
			}
		}
	}
}

// P2, P4: what is handed over is only read, what is answered is new, and the same each time.
func TestMemory(t *testing.T) {
	all, allSent := of(0, 11, 5, 0, 1, 5, 1, 1, 5, 1, 2, 90, 9, 9, 9), sent(2, 5, 7, 0, 7, 29, 1, 29, 31, 3, 90, 94, 9, 34, 99)
	allQuanta := append(each(6), -7, -7)
	p, l, quanta := all[:4], allSent[:4], allQuanta[:api.MaxFlows]
	before, sentBefore, quantaBefore := slices.Clone(all), slices.Clone(allSent), slices.Clone(allQuanta)
	for range 3 {
		x, e1 := round.Run(p, 2, quanta)
		n, e2 := round.Spread(p, l, quanta, 0, 2)
		m, e3 := round.Spread(p, sent(0, 5, 27, 2, 27, 29, 1, 29, 31, 3, 90, 94), quanta, 1, 0)
		if !slices.Equal(x, l) || e1 != nil || n != 0 || e2 != nil || m != 110 || e3 != nil {
			t.Fatal(x, e1, n, e2, m, e3)
		}
		clear(x[:cap(x)])
		if !slices.Equal(all, before) || !slices.Equal(allSent, sentBefore) || !slices.Equal(allQuanta, quantaBefore) {
			t.Fatal(all, allSent, allQuanta)
		}
	}
}

// P4: an answer does not change with what was handed over.
func TestAnswersStay(t *testing.T) {
	p, quanta := of(0, 3, 5, 1, 1, 5), each(2)
	l, _ := round.Run(p, 2, quanta)
	clear(p)
	clear(quanta)
	if !slices.Equal(l, sent(1, 5, 7, 0, 7, 13)) {
		t.Error(l)
	}
}

// P50: of one flow alone it is in order, whatever the quanta.
func TestOneFlow(t *testing.T) {
	var s source
	for range 300 {
		p, per, flow := s.packets(40, 20, 30, 8), 1+s.below(4), s.below(api.MaxFlows)
		for i := range p {
			p[i].Flow = flow
		}
		want, _ := fifo.Run(p, per)
		quanta := s.quanta(25)
		if l, err := round.Run(p, per, quanta); !slices.Equal(l, want) || err != nil {
			t.Fatal(p, per, quanta, l, err)
		}
	}
}
