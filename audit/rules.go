package audit

import "floodgate/api"

// sending: what a link has sent so far, all of it well.
type sending struct {
	packets []api.Packet
	done    []bool // by numbers of packets
	free    int    // the last To
}

// rule that each one keeps to that is sent, and the error of one that does not.
type rule struct {
	err    error
	broken func(x api.Sent) bool
}

// rules of a link, in the order in which their errors are told: the first one sees to it that there is the packet that the others look at.
func (s *sending) rules(per int) []rule {
	packet := func(x api.Sent) api.Packet { return s.packets[x.Packet] }
	return []rule{
		{api.ErrNone, func(x api.Sent) bool {
			return x.Packet < 0 || x.Packet >= len(s.packets) || s.done[x.Packet]
		}},
		{api.ErrOld, func(x api.Sent) bool {
			return x.From < packet(x).At || x.From < s.free
		}},
		{api.ErrShape, func(x api.Sent) bool {
			return x.To != x.From+per*packet(x).Size
		}},
		{api.ErrIdle, func(x api.Sent) bool {
			hasCome := func(number int) bool { return s.packets[number].At < x.From }
			return x.From > s.free && s.anyLeft(hasCome)
		}},
		{api.ErrTurn, func(x api.Sent) bool {
			isAhead := func(number int) bool { return number < x.Packet && s.packets[number].Flow == packet(x).Flow }
			return s.anyLeft(isAhead)
		}},
	}
}

func firstBroken(rules []rule, x api.Sent) error {
	for _, r := range rules {
		if r.broken(x) {
			return r.err
		}
	}
	return nil
}

// anyLeft that is so, of those that were not sent so far: whether they will be, or never, is one.
func (s *sending) anyLeft(is func(number int) bool) bool {
	for number, done := range s.done {
		if !done && is(number) {
			return true
		}
	}
	return false
}

func (s *sending) goOn(x api.Sent) {
	s.done[x.Packet] = true
	s.free = x.To
}
