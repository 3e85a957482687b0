package play_test

import (
	"math"
	"slices"
	"testing"

	"floodgate/api"
	"floodgate/play"
)

type (
	packets = []api.Packet
	sents   = []api.Sent
	tallies = []play.Tally
)

const (
	low  = math.MinInt
	high = math.MaxInt
	end  = api.MaxTime
	bare = -1 // the place of an error that has none
)

// of makes packets of their Flows, Sizes and Ats, by turns.
func of(numbers ...int) packets {
	var out packets
	for i := 0; i < len(numbers); i += 3 {
		out = append(out, api.Packet{Flow: numbers[i], Size: numbers[i+1], At: numbers[i+2]})
	}
	return out
}

// sent packets, of their numbers, Froms and Tos, by turns.
func sent(numbers ...int) sents {
	var out sents
	for i := 0; i < len(numbers); i += 3 {
		out = append(out, api.Sent{Packet: numbers[i], From: numbers[i+1], To: numbers[i+2]})
	}
	return out
}

// tally makes tallies of the first flows, of their Bytes, Mosts and Lasts, by turns; of the others there is nothing.
func tally(numbers ...int) tallies {
	out := make(tallies, api.MaxFlows)
	for i := 0; i < len(numbers); i += 3 {
		out[i/3] = play.Tally{Bytes: numbers[i], Most: numbers[i+1], Last: numbers[i+2]}
	}
	return out
}

// isFault tells whether err is just this error, at this place or bare.
func isFault(err, want error, at int) bool {
	if at == bare {
		return err == want
	}
	f, ok := err.(*api.Fault)
	return ok && f.At == at && f.Err == want
}

// P90.
func TestPackets(t *testing.T) {
	for _, c := range []struct {
		name   string
		script []int
		want   packets
	}{
		{"no list", nil, nil},
		{"no numbers", []int{}, nil},
		{"0", []int{0}, of(0, 1, 0)},
		{"the first one's ticks count", []int{5}, of(0, 1, 5)},
		{"up to the next flow", []int{6}, of(0, 1, 6)},
		{"the next flow", []int{7}, of(1, 1, 0)},
		{"up to the flow behind it", []int{13}, of(1, 1, 6)},
		{"the flow behind it", []int{14}, of(2, 1, 0)},
		{"up to the next byte", []int{20}, of(2, 1, 6)},
		{"the next byte", []int{21}, of(0, 2, 0)},
		{"the greatest size", []int{6279}, of(0, 300, 0)},
		{"the greatest of all", []int{6299}, of(2, 300, 6)},
		{"from the beginning again", []int{6300}, of(0, 1, 0)},
		{"and on", []int{6300 + 7 + 21*4 + 3}, of(1, 5, 3)},
		{"ticks go on", []int{3, 2, 6, 0, 1}, of(0, 1, 3, 0, 1, 5, 0, 1, 11, 0, 1, 11, 0, 1, 12)},
		{"ticks go on over flows", []int{3 + 14, 2, 6 + 7, 14}, of(2, 1, 3, 0, 1, 5, 1, 1, 11, 2, 1, 11)},
		{"at one tick", []int{4, 7, 14, 21, 0, 6300}, of(0, 1, 4, 1, 1, 4, 2, 1, 4, 0, 2, 4, 0, 1, 4, 0, 1, 4)},
		{"all at tick 0", []int{42, 42, 42}, of(0, 3, 0, 0, 3, 0, 0, 3, 0)},

		{"below 0", []int{-1}, nil},
		{"all below 0", []int{-1, -7, -6300, low}, nil},
		{"below 0 at the beginning", []int{-1, -2, -8, 3, 8}, of(0, 1, 3, 1, 1, 4)},
		{"below 0 at the end", []int{3, 8, -1, -2, -8}, of(0, 1, 3, 1, 1, 4)},
		{"below 0 between", []int{3, -1, low, -5, 8}, of(0, 1, 3, 1, 1, 4)},
		{"below 0 by turns", []int{-6, 3, -6, 3, -6, 3, -6}, of(0, 1, 3, 0, 1, 6, 0, 1, 9)},

		{"more than 32 bits", []int{1 << 31, 1 << 32}, of(0, 127, 2, 0, 253, 6)},
		{"great ones", []int{1 << 62, 1000000000000000000}, of(0, 1, 4, 0, 220, 5)},
		{"the greatest ones", []int{high - 1, high, high - 1}, of(0, 1, 6, 1, 1, 6, 0, 1, 12)},
		{"the least and the greatest", []int{low, high, low + 1}, of(1, 1, 0)},
	} {
		if p := play.Packets(c.script); !slices.Equal(p, c.want) {
			t.Error(c.name, p)
		}
	}
}

// P90: of each number, as by counting up to it.
func TestPacketsCounted(t *testing.T) {
	v := 0
	for range 2 {
		for size := 1; size <= 300; size++ {
			for flow := range 3 {
				for gap := range 7 {
					for _, ahead := range []int{0, 4} {
						p := play.Packets([]int{ahead, v})
						if want := of(0, 1, ahead, flow, size, ahead+gap); !slices.Equal(p, want) {
							t.Fatal(ahead, v, p, want)
						}
					}
					v++
				}
			}
		}
	}
}

// P90: up to MaxPackets; those that are passed over do not count.
func TestPacketsMany(t *testing.T) {
	const most = api.MaxPackets
	script := make([]int, 3*most)
	want := make(packets, most)
	for i := range script {
		script[i] = i*23 + 1 // each of another packet
	}
	at := 0
	for i := range want {
		at += script[i] % 7
		want[i] = api.Packet{Flow: script[i] / 7 % 3, Size: 1 + script[i]/21, At: at}
		if want[i].Size > 300 {
			want[i].Size -= 300
		}
	}
	for _, n := range []int{0, 1, most - 2, most - 1, most, most + 1, most + 2, 2 * most, 3 * most} {
		few := min(n, most)
		if p := play.Packets(script[:n]); !slices.Equal(p, want[:few]) {
			t.Error(n, len(p))
		}
		var mixed []int
		for i, v := range script[:n] {
			mixed = append(mixed, slices.Repeat([]int{-1 - i}, i%3)...)
			mixed = append(mixed, v)
		}
		if p := play.Packets(mixed); !slices.Equal(p, want[:few]) {
			t.Error(n, len(p), "and others below 0")
		}
		ahead := append(slices.Repeat([]int{-4}, 2*most), script[:n]...)
		if p := play.Packets(ahead); !slices.Equal(p, want[:few]) {
			t.Error(n, len(p), "and many below 0 ahead")
		}
	}
	if p := play.Packets(slices.Repeat([]int{-1}, 3*most)); len(p) != 0 {
		t.Error(len(p))
	}
	if p := play.Packets(slices.Repeat([]int{6299}, 3*most)); len(p) != most || p[most-1] != (api.Packet{Flow: 2, Size: 300, At: 1800}) {
		t.Error(len(p))
	}
}

// P91.
func TestTallies(t *testing.T) {
	p := of(0, 3, 5, 1, 1, 5, 0, 2, 6, 1, 10, 40)
	eight, last := packets{}, of(7, api.MaxSize, end)
	for flow := range api.MaxFlows {
		eight = append(eight, api.Packet{Flow: flow, Size: 1 << flow, At: 10 * flow})
	}
	for _, c := range []struct {
		name string
		p    packets
		l    sents
		want tallies
	}{
		{"no lists", nil, nil, tally()},
		{"no packets, nothing sent", packets{}, sents{}, tally()},
		{"nothing is sent", p, nil, tally()},
		{"one", of(0, 3, 5), sent(0, 5, 11), tally(3, 6, 11)},
		{"one of another flow", of(2, 3, 5), sent(0, 5, 11), tally(0, 0, 0, 0, 0, 0, 3, 6, 11)},
		{"one at tick 0", of(0, 1, 0), sent(0, 0, 1), tally(1, 1, 1)},
		{"two flows", p, sent(0, 5, 11, 1, 11, 13, 2, 13, 17, 3, 40, 60), tally(5, 11, 17, 11, 20, 60)},
		{"some are never sent", p, sent(1, 5, 7, 0, 7, 13), tally(3, 8, 13, 1, 2, 7)},
		{"of one flow none is sent", p, sent(3, 40, 60, 1, 60, 62), tally(0, 0, 0, 11, 57, 62)},
		{"the greatest delay is the first one's", of(0, 9, 0, 0, 1, 50), sent(0, 0, 9, 1, 50, 51), tally(10, 9, 51)},
		{"the greatest delay is the last one's", of(0, 1, 0, 0, 9, 50), sent(0, 0, 1, 1, 50, 59), tally(10, 9, 59)},
		{"the greatest delay is one's between", of(0, 1, 0, 0, 9, 50, 0, 2, 70), sent(0, 0, 1, 1, 50, 59, 2, 70, 72), tally(12, 9, 72)},
		{"the greatest To is not the greatest delay's", of(0, 1, 0, 0, 1, 90), sent(0, 0, 50, 1, 90, 91), tally(2, 50, 91)},
		{"all eight", eight, sent(0, 0, 1, 1, 10, 12, 2, 20, 24, 3, 30, 38, 4, 40, 56, 5, 56, 88, 6, 88, 152, 7, 152, 280),
			tally(1, 1, 1, 2, 2, 12, 4, 4, 24, 8, 8, 38, 16, 16, 56, 32, 38, 88, 64, 92, 152, 128, 210, 280)},
		{"the greatest, at the last tick", last, sent(0, end, end+1500000), append(tally()[1:], play.Tally{Bytes: api.MaxSize, Most: 1500000, Last: end + 1500000})},
		{"a delay that is as long as may be", of(0, 1, 0), sent(0, 0, 1<<59), tally(1, 1<<59, 1<<59)},

		// What is no such list, as nobody asks for one.
		{"twice, the same", p, sent(1, 5, 7, 1, 5, 7), tally(0, 0, 0, 2, 2, 7)},
		{"twice, the later one behind", p, sent(0, 5, 11, 0, 11, 17), tally(6, 12, 17)},
		{"twice, the later one ahead", p, sent(0, 11, 17, 0, 5, 11), tally(6, 12, 17)},
		{"twice, others between", p, sent(0, 5, 11, 1, 11, 13, 2, 13, 17, 0, 17, 23), tally(8, 18, 23, 1, 8, 13)},
		{"thrice", p, sent(2, 6, 8, 2, 8, 10, 2, 4, 6), tally(6, 4, 10)},
		{"more than there are packets", of(0, api.MaxSize, 1), slices.Repeat(sent(0, 1, 5), 1000), tally(1500000, 4, 5)},
		{"back", p, sent(2, 90, 94, 0, 20, 26, 3, 50, 70, 1, 30, 32), tally(5, 88, 94, 11, 30, 70)},
		{"From does not count", p, sent(0, 99, 11, 1, -7, 13), tally(3, 6, 11, 1, 8, 13)},
		{"Size does not count for a delay", of(0, 100, 5), sent(0, 5, 6), tally(100, 1, 6)},
		{"of no ticks", p, sent(0, 5, 5), tally(3, 0, 5)},
		{"at tick 0", of(0, 3, 0), sent(0, 0, 0), tally(3, 0, 0)},
		{"through ahead of its tick", p, sent(0, 0, 1), tally(3, -4, 1)},
		{"below 0", p, sent(0, 0, -5), tally(3, -10, -5)},
		{"below 0, the greatest is the first one's", p, sent(0, 0, -5, 2, 0, -6), tally(5, -10, -5)},
		{"below 0, the greatest is the last one's", p, sent(0, 0, -9, 2, 0, -6, 1, 0, -7), tally(5, -12, -6, 1, -12, -7)},
		{"just one is not below 0", p, sent(0, 0, -5, 2, 0, 6, 0, 0, -1), tally(8, 0, 6)},
		{"far below 0", p, sent(1, 0, -1<<59), tally(0, 0, 0, 1, -1<<59-5, -1<<59)},
	} {
		if l, err := play.Tallies(c.p, c.l); !slices.Equal(l, c.want) || err != nil {
			t.Error(c.name, l, err)
		}
	}
}

// P91: of as many packets as may be, each flow's own.
func TestTalliesMany(t *testing.T) {
	const most = api.MaxPackets
	p, l, want := make(packets, most), make(sents, most), make(tallies, api.MaxFlows)
	for i := range p {
		p[i] = api.Packet{Flow: i % api.MaxFlows, Size: api.MaxSize, At: 9}
		l[i] = api.Sent{Packet: i, From: 9 + i*1500000, To: 9 + (i+1)*1500000}
		x := &want[i%api.MaxFlows]
		x.Bytes, x.Most, x.Last = x.Bytes+api.MaxSize, (i+1)*1500000, 9+(i+1)*1500000
	}
	for range 2 {
		if got, err := play.Tallies(p, l); !slices.Equal(got, want) || err != nil {
			t.Error(got, err)
		}
		slices.Reverse(l) // whatever the order
	}
}

// wrongPackets, with the error and the place that they have.
var wrongPackets = []struct {
	p   packets
	err error
	at  int
}{
	{slices.Repeat(of(1, 1, 7), api.MaxPackets+1), api.ErrBound, bare},
	{make(packets, api.MaxPackets+1), api.ErrBound, bare},
	{of(-1, 1, 0), api.ErrBound, 0},
	{of(api.MaxFlows, 1, 0), api.ErrBound, 0},
	{of(low, 1, 0), api.ErrBound, 0},
	{of(high, 1, 0), api.ErrBound, 0},
	{of(0, 0, 0), api.ErrBound, 0},
	{of(0, -1, 0), api.ErrBound, 0},
	{of(0, api.MaxSize+1, 0), api.ErrBound, 0},
	{of(0, 1, -1), api.ErrBound, 0},
	{of(0, 1, api.MaxTime+1), api.ErrBound, 0},
	{of(low, high, high), api.ErrBound, 0},
	{of(0, 1, 5, 0, 1, 4), api.ErrOld, 1},
	{of(0, 1, 5, 0, 0, 4), api.ErrBound, 1},
	{of(0, 1, 5, 0, 1, 5, 0, 1, 4, 0, 0, 5), api.ErrOld, 2},
	{of(0, 1, 5, 0, 1, 5, 8, 1, 5, 0, 1, 4), api.ErrBound, 2},
}

// P91: wrong packets; only then what was sent, which may be wrong, too.
func TestTalliesWrongPackets(t *testing.T) {
	for _, c := range wrongPackets {
		for _, l := range []sents{nil, {}, sent(0, 0, 99), sent(999, 0, 0), sent(-1, 0, 0), sent(0, 0, 1, low, 0, 0), sent(high, 0, 1), slices.Repeat(sent(0, 0, 1), 999)} {
			if got, err := play.Tallies(c.p, l); len(got) != 0 || !isFault(err, c.err, c.at) {
				t.Error(c.p, l, got, err)
			}
		}
	}
}

// P91: the first of what was sent whose packet there is not.
func TestTalliesNone(t *testing.T) {
	p := of(0, 3, 5, 7, 1, 5)
	for _, c := range []struct {
		name string
		p    packets
		l    sents
		at   int
	}{
		{"no packets", nil, sent(0, 0, 0), 0},
		{"no packets, two", packets{}, sent(0, 0, 0, 1, 0, 0), 0},
		{"too great by one", p, sent(2, 5, 11), 0},
		{"below 0", p, sent(-1, 5, 11), 0},
		{"the last one", p, sent(0, 5, 11, 1, 11, 13, 2, 13, 14), 2},
		{"the first of two", p, sent(0, 5, 11, -1, 11, 13, 2, 13, 14), 1},
		{"the least", p, sent(1, 0, 0, low, 0, 0, 1, 0, 0), 1},
		{"the greatest", p, sent(1, 0, 0, 0, 0, 0, 1, 0, 0, high, 0, 0), 3},
		{"behind one that is sent twice", p, sent(1, 0, 0, 1, 0, 0, 5, 0, 0), 2},
		{"what lies behind the list's length", p[:1], sent(0, 0, 0, 1, 0, 0), 1},
		{"behind many", p, append(slices.Repeat(sent(0, 0, 1), 999), sent(2, 0, 1)...), 999},
	} {
		if got, err := play.Tallies(c.p, c.l); len(got) != 0 || !isFault(err, api.ErrNone, c.at) {
			t.Error(c.name, got, err)
		}
	}
}

// P2, P4: what is handed over is only read, also behind its length; what is answered is new, and the same each time.
func TestMemory(t *testing.T) {
	allScript := []int{3, -1, 8, 21, 99, 98}
	all, allSent := of(0, 3, 5, 1, 1, 5, 0, 2, 30, 9, 9, 9), sent(1, 5, 7, 0, 7, 13, 2, 30, 34, 9, 34, 99)
	script, p, l := allScript[:4], all[:3], allSent[:3]
	scriptBefore, before, sentBefore := slices.Clone(allScript), slices.Clone(all), slices.Clone(allSent)
	var wrong error
	for range 3 {
		q := play.Packets(script)
		x, e1 := play.Tallies(p, l)
		nothing, e2 := play.Tallies(nil, nil)
		if !slices.Equal(q, of(0, 1, 3, 1, 1, 4, 0, 2, 4)) || !slices.Equal(x, tally(5, 8, 34, 1, 2, 7)) || e1 != nil {
			t.Fatal(q, x, e1)
		}
		if !slices.Equal(nothing, tally()) || e2 != nil {
			t.Fatal(nothing, e2)
		}
		if _, wrong = play.Tallies(p, allSent); !isFault(wrong, api.ErrNone, 3) {
			t.Fatal(wrong)
		}
		// Whoever gets an answer may write into it: nobody else sees it.
		*wrong.(*api.Fault) = api.Fault{}
		for i := range x {
			x[i], nothing[i] = play.Tally{Bytes: 7, Most: 7, Last: 7}, play.Tally{Bytes: 7}
		}
		clear(q[:cap(q)])
		if !slices.Equal(allScript, scriptBefore) || !slices.Equal(all, before) || !slices.Equal(allSent, sentBefore) {
			t.Fatal(allScript, all, allSent)
		}
	}
}

// P4: an answer does not change with what was handed over, nor with a later answer.
func TestAnswersStay(t *testing.T) {
	script, p, l := []int{3, 8}, of(0, 3, 5, 1, 1, 5), sent(0, 5, 11, 1, 11, 13)
	q := play.Packets(script)
	x, _ := play.Tallies(p, l)
	clear(script)
	clear(p)
	clear(l)
	play.Packets([]int{50, 60, 70})
	play.Tallies(of(0, 9, 9, 1, 9, 9), sent(0, 9, 99, 1, 99, 199))
	if !slices.Equal(q, of(0, 1, 3, 1, 1, 4)) || !slices.Equal(x, tally(3, 6, 11, 1, 8, 13)) {
		t.Error(q, x)
	}
}
