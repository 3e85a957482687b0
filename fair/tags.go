package fair

import (
	"floodgate/api"
	"floodgate/link"
)

// tags of packets, and what they are made from.
type tags struct {
	packets []api.Packet
	weights []int
	given   []int       // of each packet that has come, by its number
	ahead   map[int]int // of each flow whose packets came since the link was idle, the last one's
	current int         // V of the document
	waiting []int       // numbers of packets
}

func newTags(p []api.Packet, weights []int) *tags {
	return &tags{packets: p, weights: weights, given: make([]int, len(p)), ahead: map[int]int{}}
}

// queue that picks the packet with the least tag.
func (t *tags) queue() link.Queue {
	return link.Rule{Comes: t.come, Picks: t.pick, Rests: t.rest}
}

// come in. It does not matter that a packet which came while another one was sent comes in behind that: the current tag is that one's until the next is picked.
func (t *tags) come(number int) {
	x := t.packets[number]
	tag := max(t.current, t.ahead[x.Flow]) + x.Size*api.Scale/t.weights[x.Flow]
	t.given[number] = tag
	t.ahead[x.Flow] = tag
	t.waiting = append(t.waiting, number)
}

func (t *tags) pick() int {
	number, left := link.TakeLeast(t.waiting, t.tagOf)
	t.waiting = left
	t.current = t.given[number]
	return number
}

// rest is asked behind all that came just when the link was free: only if there is none of these, either, all begins anew.
func (t *tags) rest() int {
	if len(t.waiting) == 0 {
		t.current = 0
		clear(t.ahead)
	}
	return len(t.waiting)
}

func (t *tags) tagOf(number int) int { return t.given[number] }
