// Package link: a link that sends packets, one at a time, in the order in which a queue picks them: what the packages that send over one have in common.
package link

import (
	"slices"

	"floodgate/api"
	"floodgate/bucket"
)

// Queue of packets that wait for a link, each told by its number.
type Queue interface {
	// Come: this packet waits from now on.
	Come(number int)
	// Pick one that waits; it waits no more then. Nobody asks for it while none waits.
	Pick() int
	// Rest: so many wait. It is asked for whenever the link is free, behind all that have come by then: if none waits, the link is idle until the next one comes.
	Rest() int
}

// Rule is a queue that is made of functions.
type Rule struct {
	Comes func(number int)
	Picks func() int
	Rests func() int
}

// Come in, by the rule.
func (r Rule) Come(number int) { r.Comes(number) }

// Pick one, by the rule.
func (r Rule) Pick() int { return r.Picks() }

// Rest, by the rule.
func (r Rule) Rest() int { return r.Rests() }

// Check packets, and the ticks that a link needs for a byte.
func Check(p []api.Packet, per int) error {
	if err := bucket.Check(p); err != nil {
		return err
	}
	if per < 1 || per > api.MaxPer {
		return api.ErrBound
	}
	return nil
}

// IsFlow tells whether there is a flow of this number.
func IsFlow(n int) bool { return n >= 0 && n < api.MaxFlows }

// CheckNumbers of a rule, one for each flow: is tells whether one is well.
func CheckNumbers(numbers []int, is func(n int) bool) error {
	if len(numbers) != api.MaxFlows {
		return api.ErrShape
	}
	for _, n := range numbers {
		if !is(n) {
			return api.ErrBound
		}
	}
	return nil
}

// TakeLeast takes out of those that wait (one at least) the one for which measure tells the least number, of these the first; it changes the list in place. Those that are left stay in their order.
func TakeLeast(waiting []int, measure func(number int) int) (number int, left []int) {
	first := 0
	for i, other := range waiting {
		if measure(other) < measure(waiting[first]) {
			first = i
		}
	}
	number = waiting[first]
	return number, slices.Delete(waiting, first, first+1)
}

// Send packets that were checked, as an empty queue picks them.
func Send(p []api.Packet, per int, q Queue) []api.Sent {
	var out []api.Sent
	now, next := 0, 0
	for {
		for ; next < len(p) && p[next].At <= now; next++ {
			q.Come(next)
		}
		switch {
		case q.Rest() > 0:
			s := sendOne(p, per, q.Pick(), now)
			out = append(out, s)
			now = s.To
		case next < len(p):
			now = p[next].At
		default:
			return out
		}
	}
}

func sendOne(p []api.Packet, per, number, now int) api.Sent {
	return api.Sent{Packet: number, From: now, To: now + per*p[number].Size}
}
