package fair_test

import (
	"math"
	"slices"
	"testing"

	"floodgate/api"
	"floodgate/fair"
	"floodgate/fifo"
)

type (
	packets = []api.Packet
	sents   = []api.Sent
)

// of makes packets of their Flows, Sizes and Ats, by turns.
func of(numbers ...int) packets {
	var out packets
	for i := 0; i < len(numbers); i += 3 {
		out = append(out, api.Packet{Flow: numbers[i], Size: numbers[i+1], At: numbers[i+2]})
	}
	return out
}

// sent packets, of their numbers, Froms and Tos, by turns.
func sent(numbers ...int) sents {
	var out sents
	for i := 0; i < len(numbers); i += 3 {
		out = append(out, api.Sent{Packet: numbers[i], From: numbers[i+1], To: numbers[i+2]})
	}
	return out
}

// each flow's weight: those of the first ones, 12 for the others: a byte of these counts 1.
func each(first ...int) []int {
	return append(first, slices.Repeat([]int{12}, api.MaxFlows-len(first))...)
}

// isFault tells whether err is just this error, at this place or bare (-1).
func isFault(err, want error, at int) bool {
	if at < 0 {
		return err == want
	}
	f, ok := err.(*api.Fault)
	return ok && f.At == at && f.Err == want
}

// P60, P61.
func TestRunAndTags(t *testing.T) {
	const end = api.MaxTime
	for _, c := range []struct {
		name    string
		p       packets
		per     int
		weights []int
		tags    []int
		want    sents
	}{
		{"no list", nil, 1, each(), nil, nil},
		{"no packets", packets{}, api.MaxPer, each(1), nil, nil},
		{"one", of(1, 3, 5), 2, each(1, 4), []int{9}, sent(0, 5, 11)},
		{"of one tick, by tag", of(0, 3, 4, 1, 2, 4, 2, 1, 4), 1, each(), []int{3, 2, 1}, sent(2, 4, 5, 1, 5, 7, 0, 7, 10)},
		{"of one tick and one tag, the first", of(7, 3, 4, 1, 3, 4, 4, 3, 4), 1, each(), []int{3, 3, 3}, sent(0, 4, 7, 1, 7, 10, 2, 10, 13)},
		{"one tag of two weights, the first", of(2, 12, 0, 1, 2, 0, 0, 6, 0), 1, each(6, 2, 12), []int{12, 12, 12}, sent(0, 0, 12, 1, 12, 14, 2, 14, 20)},
		{"of one tick and one flow, in order", of(3, 9, 0, 3, 1, 0, 3, 5, 0), 1, each(), []int{9, 10, 15}, sent(0, 0, 9, 1, 9, 10, 2, 10, 15)},
		{"two flows by turns", of(0, 2, 0, 0, 2, 0, 0, 2, 0, 1, 2, 0, 1, 2, 0), 1, each(), []int{2, 4, 6, 2, 4}, sent(0, 0, 2, 3, 2, 4, 1, 4, 6, 4, 6, 8, 2, 8, 10)},
		{"three times the weight", of(0, 2, 0, 0, 2, 0, 0, 2, 0, 1, 2, 0, 1, 2, 0), 1, each(4, 12), []int{6, 12, 18, 2, 4}, sent(3, 0, 2, 4, 2, 4, 0, 4, 6, 1, 6, 8, 2, 8, 10)},
		{"each weight", of(0, 5, 0, 1, 5, 0, 2, 5, 0, 3, 5, 0, 4, 5, 0, 5, 5, 0), 1, each(1, 2, 3, 4, 6, 12), []int{60, 30, 20, 15, 10, 5}, sent(5, 0, 5, 4, 5, 10, 3, 10, 15, 2, 15, 20, 1, 20, 25, 0, 25, 30)},
		{"the weight of its flow, not of its number", of(7, 1, 0, 0, 1, 0), 1, []int{1, 12, 12, 12, 12, 12, 12, 6}, []int{2, 12}, sent(0, 0, 1, 1, 1, 2)},
		{"by tags, not by what is left", of(0, 9, 0, 1, 8, 0, 1, 8, 0), 1, each(), []int{9, 8, 16}, sent(1, 0, 8, 0, 8, 17, 2, 17, 25)},

		{"while another one is sent: its tag", of(0, 9, 0, 1, 2, 3, 2, 1, 8), 1, each(), []int{9, 11, 10}, sent(0, 0, 9, 2, 9, 10, 1, 10, 12)},
		{"while the first of two is sent", of(0, 4, 0, 0, 4, 0, 1, 3, 1), 1, each(), []int{4, 8, 7}, sent(0, 0, 4, 2, 4, 7, 1, 7, 11)},
		{"while the second of two is sent", of(0, 4, 0, 0, 4, 0, 1, 3, 5), 1, each(), []int{4, 8, 11}, sent(0, 0, 4, 1, 4, 8, 2, 8, 11)},
		{"just when the second of two begins", of(0, 4, 0, 0, 4, 0, 1, 3, 4), 1, each(), []int{4, 8, 7}, sent(0, 0, 4, 2, 4, 7, 1, 7, 11)},
		{"just when the second would begin, of one tag", of(0, 4, 0, 0, 4, 0, 1, 4, 4), 1, each(), []int{4, 8, 8}, sent(0, 0, 4, 1, 4, 8, 2, 8, 12)},
		{"one that is being sent goes on", of(0, 9, 0, 1, 1, 0, 2, 1, 2), 1, each(1), []int{108, 1, 109}, sent(1, 0, 1, 0, 1, 10, 2, 10, 11)},
		{"the flow's own tag ahead counts, not the one that is sent", of(0, 9, 0, 1, 1, 0, 0, 1, 1), 1, each(), []int{9, 1, 10}, sent(1, 0, 1, 0, 1, 10, 2, 10, 11)},
		{"a flow that was long away", of(1, 1, 0, 0, 5, 0, 0, 5, 0, 0, 5, 0, 1, 1, 12), 1, each(), []int{1, 5, 10, 15, 16}, sent(0, 0, 1, 1, 1, 6, 2, 6, 11, 3, 11, 16, 4, 16, 17)},
		{"a flow that was not away as long", of(1, 1, 0, 0, 5, 0, 0, 5, 0, 0, 5, 0, 1, 1, 7), 1, each(), []int{1, 5, 10, 15, 11}, sent(0, 0, 1, 1, 1, 6, 2, 6, 11, 4, 11, 12, 3, 12, 17)},
		{"of each flow its own tag ahead", of(0, 2, 0, 1, 2, 0, 0, 3, 2, 1, 3, 2), 1, each(2, 6), []int{12, 4, 30, 10}, sent(1, 0, 2, 3, 2, 5, 0, 5, 7, 2, 7, 10)},
		{"V is the last one's tag, not the greatest", of(0, 9, 0, 1, 1, 0, 2, 3, 1), 1, each(), []int{9, 1, 4}, sent(1, 0, 1, 2, 1, 4, 0, 4, 13)},
		{"V is a tag, not a tick", of(0, 3, 70, 1, 4, 71), 9, each(), []int{3, 7}, sent(0, 70, 97, 1, 97, 133)},

		{"just when the link is free, and none waits: busy on", of(0, 3, 5, 1, 1, 11), 2, each(), []int{3, 4}, sent(0, 5, 11, 1, 11, 13)},
		{"just when the link is free, of the same flow", of(0, 3, 5, 0, 1, 11), 2, each(), []int{3, 4}, sent(0, 5, 11, 1, 11, 13)},
		{"two just when the link is free", of(0, 3, 5, 1, 2, 11, 0, 1, 11), 2, each(), []int{3, 5, 4}, sent(0, 5, 11, 2, 11, 13, 1, 13, 17)},
		{"a tick behind that: V is 0 again", of(0, 3, 5, 1, 1, 12), 2, each(), []int{3, 1}, sent(0, 5, 11, 1, 12, 14)},
		{"a tick behind that: the flow's tag is 0 again", of(0, 3, 5, 0, 1, 12), 2, each(), []int{3, 1}, sent(0, 5, 11, 1, 12, 14)},
		{"idle between two", of(0, 3, 5, 1, 1, 30), 2, each(), []int{3, 1}, sent(0, 5, 11, 1, 30, 32)},
		{"idle: all flows' tags are 0 again", of(0, 3, 0, 1, 7, 0, 2, 5, 0, 0, 3, 90, 1, 2, 90, 2, 1, 90), 1, each(), []int{3, 7, 5, 3, 2, 1}, sent(0, 0, 3, 2, 3, 8, 1, 8, 15, 5, 90, 91, 4, 91, 93, 3, 93, 96)},
		{"idle, and busy again", of(0, 9, 0, 0, 2, 50, 1, 3, 51), 1, each(), []int{9, 2, 5}, sent(0, 0, 9, 1, 50, 52, 2, 52, 55)},
		{"idle twice", of(0, 9, 0, 1, 8, 50, 0, 7, 100), 1, each(), []int{9, 8, 7}, sent(0, 0, 9, 1, 50, 58, 2, 100, 107)},
		{"idle ahead of all", of(0, 9, 7, 1, 8, 8), 1, each(), []int{9, 17}, sent(0, 7, 16, 1, 16, 24)},
		{"the link waits for nobody of a lesser tag", of(0, 9, 4, 1, 1, 5), 2, each(1), []int{108, 109}, sent(0, 4, 22, 1, 22, 24)},
		{"as the tests tell", of(0, 10, 0, 1, 10, 0, 1, 10, 0, 2, 60, 5, 0, 1, 300), 1, each(1, 2, 12), []int{120, 60, 120, 120, 12}, sent(1, 0, 10, 0, 10, 20, 2, 20, 30, 3, 30, 90, 4, 300, 301)},
		{"the greatest, at the last tick", of(0, api.MaxSize, end, 7, api.MaxSize, end), api.MaxPer, each(1), []int{18000, 1500}, sent(1, end, end+1500000, 0, end+1500000, end+3000000)},
	} {
		if l, err := fair.Run(c.p, c.per, c.weights); !slices.Equal(l, c.want) || err != nil {
			t.Error(c.name, l, err)
		}
		if tags, err := fair.Tags(c.p, c.per, c.weights); !slices.Equal(tags, c.tags) || err != nil {
			t.Error(c.name, tags, err)
		}
	}
}

// P61: the link's ticks decide who comes while busy, and so the tags.
func TestTagsByPer(t *testing.T) {
	p := of(0, 4, 0, 0, 4, 0, 1, 1, 6)
	for per, want := range map[int][]int{1: {4, 8, 9}, 2: {4, 8, 5}} {
		if tags, err := fair.Tags(p, per, each()); !slices.Equal(tags, want) || err != nil {
			t.Error(per, tags, err)
		}
	}
	p = of(0, 4, 0, 1, 1, 5)
	for per, want := range map[int][]int{1: {4, 1}, 2: {4, 5}} {
		if tags, err := fair.Tags(p, per, each()); !slices.Equal(tags, want) || err != nil {
			t.Error(per, tags, err)
		}
	}
}

// P60, P61: as many as may be, at once, the greatest tags.
func TestMany(t *testing.T) {
	p := slices.Repeat(of(3, api.MaxSize, 9), api.MaxPackets)
	weights := slices.Repeat([]int{1}, api.MaxFlows)
	l, e1 := fair.Run(p, api.MaxPer, weights)
	tags, e2 := fair.Tags(p, api.MaxPer, weights)
	if len(l) != api.MaxPackets || len(tags) != api.MaxPackets || e1 != nil || e2 != nil {
		t.Fatal(len(l), len(tags), e1, e2)
	}
	for i, x := range l {
		if want := (api.Sent{Packet: i, From: 9 + i*1500000, To: 9 + (i+1)*1500000}); x != want || tags[i] != (i+1)*18000 {
			t.Fatal(i, x, tags[i])
		}
	}
}

// wrongPackets, with the error and the place that they have (-1: a bare error).
var wrongPackets = []struct {
	p   packets
	err error
	at  int
}{
	{slices.Repeat(of(1, 1, 7), api.MaxPackets+1), api.ErrBound, -1},
	{make(packets, api.MaxPackets+1), api.ErrBound, -1},
	{of(-1, 1, 0), api.ErrBound, 0},
	{of(api.MaxFlows, 1, 0), api.ErrBound, 0},
	{of(0, 0, 0), api.ErrBound, 0},
	{of(0, api.MaxSize+1, 0), api.ErrBound, 0},
	{of(0, 1, -1), api.ErrBound, 0},
	{of(0, 1, api.MaxTime+1), api.ErrBound, 0},
	{of(math.MinInt, math.MaxInt, math.MaxInt), api.ErrBound, 0},
	{of(0, 1, 5, 0, 1, 4), api.ErrOld, 1},
	{of(0, 1, 5, 0, 0, 4), api.ErrBound, 1},
	{of(0, 1, 5, 0, 1, 5, 0, 1, 4, 0, 0, 5), api.ErrOld, 2},
}

// noWeights: numbers that are none.
func noWeights() []int {
	out := []int{math.MinInt, math.MinInt + 12, -24, math.MaxInt, math.MaxInt - 11, 18, 20, 24, 36, 48, 60, 120, 144, 1 << 32, 12 << 32}
	for n := -13; n <= 15; n++ {
		if !slices.Contains([]int{1, 2, 3, 4, 6, 12}, n) {
			out = append(out, n)
		}
	}
	return out
}

// wrongWeights, and the bare error that they have.
func wrongWeights() map[error][][]int {
	out := map[error][][]int{api.ErrShape: {
		nil, {}, {1}, each()[1:], append(each(), 1),
		{0}, append(each(), 0), append(each(5), 1), // wrong in both ways
	}}
	for _, n := range noWeights() {
		for flow := range api.MaxFlows {
			wrong := each()
			wrong[flow] = n
			out[api.ErrBound] = append(out[api.ErrBound], wrong)
		}
	}
	return out
}

// fails tells whether both calls have this error, and nothing beside it.
func fails(p packets, per int, weights []int, want error, at int) bool {
	l, e1 := fair.Run(p, per, weights)
	tags, e2 := fair.Tags(p, per, weights)
	return len(l) == 0 && len(tags) == 0 && isFault(e1, want, at) && isFault(e2, want, at)
}

// P60, P61: wrong packets; only then a wrong link; only then wrong weights.
func TestFaults(t *testing.T) {
	wrongPers := []int{0, -1, api.MaxPer + 1, math.MinInt, math.MaxInt}
	for err, lists := range wrongWeights() {
		for _, weights := range lists {
			for _, p := range []packets{nil, {}, of(0, 1, 0)} {
				for _, per := range []int{1, api.MaxPer} {
					if !fails(p, per, weights, err, -1) {
						t.Error(p, per, weights, err)
					}
				}
			}
		}
	}
	for _, weights := range [][]int{each(), nil, each(0)} {
		for _, per := range wrongPers {
			for _, p := range []packets{nil, of(0, 1, 0)} {
				if !fails(p, per, weights, api.ErrBound, -1) {
					t.Error(p, per, weights)
				}
			}
		}
		for _, c := range wrongPackets {
			for _, per := range append(wrongPers, 1) {
				if !fails(c.p, per, weights, c.err, c.at) {
					t.Error(c.p, per, weights)
				}
			}
		}
	}
}

// P60, P61: each weight, of each flow.
func TestWeights(t *testing.T) {
	for weight, want := range map[int]int{1: 84, 2: 42, 3: 28, 4: 21, 6: 14, 12: 7} {
		for flow := range api.MaxFlows {
			weights := each()
			weights[flow] = weight
			p := of(flow, 7, 0)
			if l, err := fair.Run(p, 1, weights); !slices.Equal(l, sent(0, 0, 7)) || err != nil {
				t.Error(weights, l, err)
			}
			if tags, err := fair.Tags(p, 1, weights); !slices.Equal(tags, []int{want}) || err != nil {
				t.Error(weights, tags, err)
			}
		}
	}
}

// P2, P4: what is handed over is only read, what is answered is new, and the same each time.
func TestMemory(t *testing.T) {
	all, allWeights := of(0, 4, 5, 1, 1, 5, 2, 1, 5, 1, 2, 90, 9, 9, 9), append(each(6), -7, -7)
	p, weights := all[:4], allWeights[:api.MaxFlows]
	before, weightsBefore := slices.Clone(all), slices.Clone(allWeights)
	for range 3 {
		l, e1 := fair.Run(p, 2, weights)
		tags, e2 := fair.Tags(p, 2, weights)
		if !slices.Equal(l, sent(1, 5, 7, 2, 7, 9, 0, 9, 17, 3, 90, 94)) || e1 != nil || !slices.Equal(tags, []int{8, 1, 1, 2}) || e2 != nil {
			t.Fatal(l, e1, tags, e2)
		}
		clear(l[:cap(l)])
		clear(tags[:cap(tags)])
		if !slices.Equal(all, before) || !slices.Equal(allWeights, weightsBefore) {
			t.Fatal(all, allWeights)
		}
	}
}

// P4: an answer does not change with what was handed over.
func TestAnswersStay(t *testing.T) {
	p, weights := of(0, 3, 5, 1, 1, 5), each(2)
	l, _ := fair.Run(p, 2, weights)
	tags, _ := fair.Tags(p, 2, weights)
	clear(p)
	clear(weights)
	if !slices.Equal(l, sent(1, 5, 7, 0, 7, 13)) || !slices.Equal(tags, []int{18, 1}) {
		t.Error(l, tags)
	}
}

// P60: of one flow alone it is in order, whatever the weights.
func TestOneFlow(t *testing.T) {
	var s source
	for range 300 {
		p, per, flow := s.packets(40, 20, 30, 8), 1+s.below(4), s.below(api.MaxFlows)
		for i := range p {
			p[i].Flow = flow
		}
		want, _ := fifo.Run(p, per)
		weights := s.weights()
		if l, err := fair.Run(p, per, weights); !slices.Equal(l, want) || err != nil {
			t.Fatal(p, per, weights, l, err)
		}
	}
}
