package round

import (
	"floodgate/api"
	"floodgate/bucket"
	"floodgate/fifo"
	"floodgate/link"
)

// Spread of two flows.
func Spread(p []api.Packet, l []api.Sent, quanta []int, a, b int) (int, error) {
	if err := checkSpread(p, l, quanta, a, b); err != nil {
		return 0, err
	}
	var (
		later  behind
		leads  stretch
		spread int
	)
	// From the end, as who waits hangs on what is sent behind.
	for i := len(l) - 1; i >= 0; i-- {
		x, now := p[l[i].Packet], l[i].From
		if later.waits(a, now) && later.waits(b, now) {
			leads.add(lead(x, quanta, a, b))
			spread = max(spread, leads.most())
		} else {
			leads = stretch{}
		}
		later.add(x)
	}
	return spread, nil
}

func checkSpread(p []api.Packet, l []api.Sent, quanta []int, a, b int) error {
	if err := link.CheckNumbers(quanta, isQuantum); err != nil {
		return err
	}
	if !link.IsFlow(a) || !link.IsFlow(b) {
		return api.ErrBound
	}
	if err := bucket.Check(p); err != nil {
		return err
	}
	_, err := fifo.Delays(p, l)
	return err
}

// lead that flow a gets over flow b by this packet. (A flow has none over itself.)
func lead(x api.Packet, quanta []int, a, b int) int {
	n := 0
	if x.Flow == a {
		n += x.Size * quanta[b]
	}
	if x.Flow == b {
		n -= x.Size * quanta[a]
	}
	return n
}

// behind: of each flow, whether packets are sent behind some place, and the least tick at which one of them came.
type behind struct {
	are    [api.MaxFlows]bool
	leasts [api.MaxFlows]int
}

func (b *behind) add(x api.Packet) {
	if !b.are[x.Flow] || x.At < b.leasts[x.Flow] {
		b.are[x.Flow], b.leasts[x.Flow] = true, x.At
	}
}

func (b *behind) waits(flow, now int) bool { return b.are[flow] && b.leasts[flow] <= now }

// stretch of leads: their sum so far, and the greatest and the least that it was (0 ahead of the first). What lies between these two is the lead of some part of it.
type stretch struct{ sum, high, low int }

func (s *stretch) add(n int) {
	s.sum += n
	s.high = max(s.high, s.sum)
	s.low = min(s.low, s.sum)
}

func (s *stretch) most() int { return s.high - s.low }
