package link_test

import (
	"math"
	"slices"
	"testing"

	"floodgate/api"
	"floodgate/link"
)

// lastFirst is a queue that picks the one that came last; it writes down how often it rested.
func lastFirst(rested *int) link.Queue {
	var waiting []int
	return link.Rule{
		Comes: func(number int) { waiting = append(waiting, number) },
		Picks: func() int {
			last := len(waiting) - 1
			number := waiting[last]
			waiting = waiting[:last]
			return number
		},
		Rests: func() int {
			if len(waiting) == 0 {
				*rested++
			}
			return len(waiting)
		},
	}
}

// told is what was sent: number, From and To of each.
func told(l []api.Sent) [][3]int {
	var out [][3]int
	for _, x := range l {
		out = append(out, [3]int{x.Packet, x.From, x.To})
	}
	return out
}

// P30, of any rule: one at a time, whole, and never idle while one waits.
func TestSend(t *testing.T) {
	p := []api.Packet{
		{Size: 2, At: 3}, {Size: 1, At: 3}, // of one tick
		{Size: 5, At: 9},                     // just when the link is free
		{Size: 1, At: 10}, {Size: 2, At: 11}, // while that is sent
		{Size: 1, At: 50}, // behind an idle time
	}
	want := [][3]int{{1, 3, 5}, {0, 5, 9}, {2, 9, 19}, {4, 19, 23}, {3, 23, 25}, {5, 50, 52}}
	rested := 0
	if l := link.Send(p, 2, lastFirst(&rested)); !slices.Equal(told(l), want) {
		t.Error(l)
	}
	if rested != 3 { // ahead of the first, while idle, behind all
		t.Error(rested)
	}
	if l := link.Send(nil, 2, lastFirst(&rested)); len(l) != 0 {
		t.Error(l)
	}
}

// P30: packets ahead of the link.
func TestCheck(t *testing.T) {
	one := []api.Packet{{Size: 1}}
	for _, per := range []int{1, 2, api.MaxPer} {
		if err := link.Check(one, per); err != nil {
			t.Error(per, err)
		}
	}
	for _, per := range []int{0, -1, api.MaxPer + 1} {
		if err := link.Check(one, per); err != api.ErrBound {
			t.Error(per, err)
		}
		if f, ok := link.Check([]api.Packet{{}}, per).(*api.Fault); !ok || f.At != 0 || f.Err != api.ErrBound {
			t.Error(per, f)
		}
	}
}

// P51, P71: the numbers of flows.
func TestIsFlow(t *testing.T) {
	for flow := range api.MaxFlows {
		if !link.IsFlow(flow) {
			t.Error(flow)
		}
	}
	for _, n := range []int{-1, api.MaxFlows, math.MinInt, math.MaxInt} {
		if link.IsFlow(n) {
			t.Error(n)
		}
	}
}

// P40, P41, and of all that have a number for each flow: how many, and only then which ones.
func TestCheckNumbers(t *testing.T) {
	is := func(n int) bool { return n == 1 || n == 4 }
	for _, c := range []struct {
		numbers []int
		want    error
	}{
		{[]int{1, 4, 1, 4, 1, 1, 1, 4}, nil},
		{nil, api.ErrShape},
		{[]int{1, 1, 1, 1, 1, 1, 1}, api.ErrShape},
		{[]int{1, 1, 1, 1, 1, 1, 1, 1, 1}, api.ErrShape},
		{[]int{2, 1, 1, 1, 1, 1, 1, 1, 1}, api.ErrShape},
		{[]int{2, 1, 1, 1, 1, 1, 1, 1}, api.ErrBound},
		{[]int{1, 1, 1, 1, 1, 1, 1, 0}, api.ErrBound},
	} {
		if err := link.CheckNumbers(c.numbers, is); err != c.want {
			t.Error(c.numbers, err)
		}
	}
}

// P40, P41, P60: the least one, of these the first; the others stay in order.
func TestTakeLeast(t *testing.T) {
	measure := func(number int) int { return number % 10 }
	for _, c := range []struct {
		waiting []int
		want    int
		left    []int
	}{
		{[]int{7}, 7, nil},
		{[]int{31, 12, 23}, 31, []int{12, 23}},
		{[]int{33, 21, 12}, 21, []int{33, 12}},
		{[]int{33, 22, 11}, 11, []int{33, 22}},
		{[]int{4, 32, 12, 22, 3}, 32, []int{4, 12, 22, 3}},
	} {
		if number, left := link.TakeLeast(slices.Clone(c.waiting), measure); number != c.want || !slices.Equal(left, c.left) {
			t.Error(c.waiting, number, left)
		}
	}
}
