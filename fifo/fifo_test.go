package fifo_test

import (
	"math"
	"slices"
	"testing"

	"floodgate/api"
	"floodgate/fifo"
)

type (
	packets = []api.Packet
	sents   = []api.Sent
	ticks   = [][2]int
)

// of makes packets of their Flows, Sizes and Ats, by turns.
func of(numbers ...int) packets {
	var out packets
	for i := 0; i < len(numbers); i += 3 {
		out = append(out, api.Packet{Flow: numbers[i], Size: numbers[i+1], At: numbers[i+2]})
	}
	return out
}

// sent packets, of their numbers, Froms and Tos, by turns.
func sent(numbers ...int) sents {
	var out sents
	for i := 0; i < len(numbers); i += 3 {
		out = append(out, api.Sent{Packet: numbers[i], From: numbers[i+1], To: numbers[i+2]})
	}
	return out
}

// isFault tells whether err is just this error, at this place or bare (-1).
func isFault(err, want error, at int) bool {
	if at < 0 {
		return err == want
	}
	f, ok := err.(*api.Fault)
	return ok && f.At == at && f.Err == want
}

// P30.
func TestRun(t *testing.T) {
	const end = api.MaxTime
	for _, c := range []struct {
		name string
		p    packets
		per  int
		want sents
	}{
		{"no list", nil, 1, nil},
		{"no packets", packets{}, api.MaxPer, nil},
		{"one", of(0, 3, 5), 2, sent(0, 5, 11)},
		{"one at tick 0", of(7, 1, 0), 1, sent(0, 0, 1)},
		{"of one tick", of(2, 3, 4, 1, 2, 4, 0, 1, 4), 1, sent(0, 4, 7, 1, 7, 9, 2, 9, 10)},
		{"of one tick, the greater ones ahead", of(0, 9, 0, 5, 1, 0, 0, 1, 0), 3, sent(0, 0, 27, 1, 27, 30, 2, 30, 33)},
		{"while one is sent", of(0, 5, 0, 1, 5, 1, 0, 5, 9), 1, sent(0, 0, 5, 1, 5, 10, 2, 10, 15)},
		{"just when the link is free", of(0, 3, 5, 1, 1, 11), 2, sent(0, 5, 11, 1, 11, 13)},
		{"a tick ahead of that", of(0, 3, 5, 1, 1, 10), 2, sent(0, 5, 11, 1, 11, 13)},
		{"a tick behind that", of(0, 3, 5, 1, 1, 12), 2, sent(0, 5, 11, 1, 12, 14)},
		{"idle between two", of(0, 3, 5, 1, 1, 30), 2, sent(0, 5, 11, 1, 30, 32)},
		{"two at once behind an idle time", of(0, 1, 0, 1, 2, 9, 0, 2, 9), 1, sent(0, 0, 1, 1, 9, 11, 2, 11, 13)},
		{"one waits for long", of(0, 100, 0, 0, 1, 1, 0, 1, 150), 1, sent(0, 0, 100, 1, 100, 101, 2, 150, 151)},
		{"the greatest, at the last tick", of(0, api.MaxSize, end, 7, api.MaxSize, end), api.MaxPer, sent(0, end, end+1500000, 1, end+1500000, end+3000000)},
		{"the farthest", of(0, 1, 0, 0, 1, end), api.MaxPer, sent(0, 0, 1000, 1, end, end+1000)},
	} {
		if l, err := fifo.Run(c.p, c.per); !slices.Equal(l, c.want) || err != nil {
			t.Error(c.name, l, err)
		}
	}
}

// P30: as many as may be, at once.
func TestRunMany(t *testing.T) {
	p := slices.Repeat(of(3, api.MaxSize, 9), api.MaxPackets)
	l, err := fifo.Run(p, api.MaxPer)
	if len(l) != api.MaxPackets || err != nil {
		t.Fatal(len(l), err)
	}
	for i, x := range l {
		if want := (api.Sent{Packet: i, From: 9 + i*1500000, To: 9 + (i+1)*1500000}); x != want {
			t.Fatal(i, x, want)
		}
	}
}

// wrongPackets, with the error and the place that they have (-1: a bare error).
var wrongPackets = []struct {
	p   packets
	err error
	at  int
}{
	{slices.Repeat(of(1, 1, 7), api.MaxPackets+1), api.ErrBound, -1},
	{make(packets, api.MaxPackets+1), api.ErrBound, -1},
	{of(-1, 1, 0), api.ErrBound, 0},
	{of(api.MaxFlows, 1, 0), api.ErrBound, 0},
	{of(0, 0, 0), api.ErrBound, 0},
	{of(0, api.MaxSize+1, 0), api.ErrBound, 0},
	{of(0, 1, -1), api.ErrBound, 0},
	{of(0, 1, api.MaxTime+1), api.ErrBound, 0},
	{of(math.MinInt, math.MaxInt, math.MaxInt), api.ErrBound, 0},
	{of(0, 1, 5, 0, 1, 4), api.ErrOld, 1},
	{of(0, 1, 5, 0, 0, 4), api.ErrBound, 1},
	{of(0, 1, 5, 0, 1, 5, 0, 1, 4, 0, 0, 5), api.ErrOld, 2},
}

// P30: wrong packets, and only then a wrong link.
func TestRunFaults(t *testing.T) {
	wrong := []int{0, -1, api.MaxPer + 1, math.MinInt, math.MaxInt}
	for _, per := range wrong {
		for _, p := range []packets{nil, {}, of(0, 1, 0)} {
			if l, err := fifo.Run(p, per); len(l) != 0 || err != api.ErrBound {
				t.Error(p, per, l, err)
			}
		}
	}
	for _, c := range wrongPackets {
		for _, per := range append(wrong, 1, api.MaxPer) {
			if l, err := fifo.Run(c.p, per); len(l) != 0 || !isFault(err, c.err, c.at) {
				t.Error(c.p, per, l, err)
			}
		}
	}
}

// P31.
func TestBusy(t *testing.T) {
	const low, high = math.MinInt, math.MaxInt
	for _, c := range []struct {
		name string
		l    sents
		want ticks
	}{
		{"no list", nil, nil},
		{"nothing", sents{}, nil},
		{"one", sent(0, 5, 11), ticks{{5, 11}}},
		{"one behind the other", sent(0, 5, 11, 1, 11, 13, 2, 13, 17), ticks{{5, 17}}},
		{"idle between", sent(0, 5, 11, 1, 11, 13, 2, 14, 17, 3, 17, 18, 4, 30, 34), ticks{{5, 13}, {14, 18}, {30, 34}}},
		{"all by themselves", sent(0, 0, 1, 1, 2, 3, 2, 4, 5), ticks{{0, 1}, {2, 3}, {4, 5}}},
		{"in any order of numbers", sent(9, 0, 4, -3, 4, 6, 9, 6, 8), ticks{{0, 8}}},
		// What is no such list.
		{"one within another", sent(0, 1, 9, 0, 3, 4, 0, 9, 9, 0, 11, 10), ticks{{1, 9}, {11, 10}}},
		{"up to the greatest To, not the last one", sent(0, 1, 9, 0, 2, 3, 0, 8, 12, 0, 13, 14), ticks{{1, 12}, {13, 14}}},
		{"the greatest To of this one, not of one ahead", sent(0, 5, 9, 0, 12, 6, 0, 8, 7), ticks{{5, 9}, {12, 6}, {8, 7}}},
		{"one that ends ahead of its begin", sent(0, 11, 10, 0, 11, 12), ticks{{11, 10}, {11, 12}}},
		{"one that ends ahead of its begin, and goes on", sent(0, 11, 10, 0, 10, 8, 0, 9, 30), ticks{{11, 30}}},
		{"of no ticks", sent(0, 3, 3, 0, 3, 3, 0, 4, 4), ticks{{3, 3}, {4, 4}}},
		{"back", sent(0, 5, 9, 0, 1, 3, 0, 9, 10), ticks{{5, 10}}},
		{"the same", sent(0, 5, 9, 0, 5, 9), ticks{{5, 9}}},
		{"below 0", sent(0, -9, -5, 0, -5, -2, 0, -1, 0), ticks{{-9, -2}, {-1, 0}}},
		{"as far as may be", sent(0, low, low, 0, low, high, 0, high, low), ticks{{low, high}}},
		{"as far as may be, apart", sent(0, high, low, 0, high, high), ticks{{high, low}, {high, high}}},
	} {
		if b := fifo.Busy(c.l); !slices.Equal(b, c.want) {
			t.Error(c.name, b)
		}
	}
}

// P31.
func TestDelays(t *testing.T) {
	p := of(0, 3, 5, 0, 1, 5, 2, 2, 13, 0, 2, 30)
	wild := of(-5, -5, -7, 99, 0, 1<<59)
	for _, c := range []struct {
		name string
		p    packets
		l    sents
		want []int
	}{
		{"no lists", nil, nil, nil},
		{"nothing is sent", p, nil, nil},
		{"all", p, sent(0, 5, 11, 1, 11, 13, 2, 13, 17, 3, 30, 34), []int{6, 8, 4, 4}},
		{"in the order of what is sent", p, sent(3, 0, 34, 0, 0, 11), []int{4, 6}},
		{"one, twice", p, sent(1, 0, 8, 1, 0, 9), []int{3, 4}},
		{"through ahead of its tick", p, sent(2, 90, 10, 2, 90, 13), []int{-3, 0}},
		{"of what are no packets", wild, sent(0, 0, 1, 1, 0, -1, 1, 0, 1<<59), []int{8, -1 - 1<<59, 0}},
		{"of more than may be sent", slices.Repeat(of(0, 1, 4), api.MaxPackets+1), sent(api.MaxPackets, 0, 6), []int{2}},
		{"more than there are packets", of(0, 1, 4), slices.Repeat(sent(0, 0, 5), 1000), slices.Repeat([]int{1}, 1000)},
	} {
		if d, err := fifo.Delays(c.p, c.l); !slices.Equal(d, c.want) || err != nil {
			t.Error(c.name, d, err)
		}
	}
}

// P31: the first whose packet there is not.
func TestDelaysFaults(t *testing.T) {
	p := of(0, 3, 5, 0, 1, 5)
	for _, c := range []struct {
		p  packets
		l  sents
		at int
	}{
		{nil, sent(0, 0, 0), 0},
		{packets{}, sent(0, 0, 0, 1, 0, 0), 0},
		{p, sent(2, 5, 11), 0},
		{p, sent(-1, 5, 11), 0},
		{p, sent(0, 5, 11, 1, 11, 13, 2, 13, 14), 2},
		{p, sent(0, 5, 11, -1, 11, 13, 2, 13, 14), 1},
		{p, sent(1, 0, 0, math.MinInt, 0, 0, 1, 0, 0), 1},
		{p, sent(1, 0, 0, 0, 0, 0, 1, 0, 0, math.MaxInt, 0, 0), 3},
		{p[:1], sent(0, 0, 0, 1, 0, 0), 1}, // what lies behind a list's length is no packet of it
	} {
		if d, err := fifo.Delays(c.p, c.l); len(d) != 0 || !isFault(err, api.ErrNone, c.at) {
			t.Error(c.p, c.l, d, err)
		}
	}
}

// P2, P4: what is handed over is only read, what is answered is new, and the same each time.
func TestMemory(t *testing.T) {
	all, allSent := of(0, 3, 5, 0, 1, 5, 2, 2, 30, 9, 9, 9), sent(0, 5, 11, 1, 11, 13, 2, 30, 34, 9, 34, 99)
	p, l := all[:3], allSent[:3]
	before, sentBefore := slices.Clone(all), slices.Clone(allSent)
	for range 3 {
		x, e1 := fifo.Run(p, 2)
		b := fifo.Busy(l)
		d, e2 := fifo.Delays(p, l)
		if !slices.Equal(x, l) || e1 != nil || !slices.Equal(b, ticks{{5, 13}, {30, 34}}) || !slices.Equal(d, []int{6, 8, 4}) || e2 != nil {
			t.Fatal(x, e1, b, d, e2)
		}
		clear(x[:cap(x)])
		clear(b[:cap(b)])
		clear(d[:cap(d)])
		if !slices.Equal(all, before) || !slices.Equal(allSent, sentBefore) {
			t.Fatal(all, allSent)
		}
	}
}

// P4: an answer does not change with what was handed over.
func TestAnswersStay(t *testing.T) {
	p := of(0, 3, 5, 0, 1, 5)
	l, _ := fifo.Run(p, 2)
	d, _ := fifo.Delays(p, l)
	b := fifo.Busy(l)
	clear(p)
	if !slices.Equal(l, sent(0, 5, 11, 1, 11, 13)) {
		t.Error(l)
	}
	clear(l)
	if !slices.Equal(b, ticks{{5, 13}}) || !slices.Equal(d, []int{6, 8}) {
		t.Error(b, d)
	}
}
