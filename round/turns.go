package round

import (
	"slices"

	"floodgate/api"
	"floodgate/link"
)

// nobody is served: no flow has this number.
const nobody = -1

// turns of flows. A flow has packets in its queue if, and only if, it is in the row or served.
type turns struct {
	packets []api.Packet
	quanta  []int
	queues  [api.MaxFlows][]int // numbers of packets
	credits [api.MaxFlows]int
	row     []int
	served  int
	waiting int
}

// byTurns is a queue that serves flows round by round.
func byTurns(p []api.Packet, quanta []int) link.Queue {
	t := &turns{packets: p, quanta: quanta, served: nobody}
	return link.Rule{Comes: t.come, Picks: t.pick, Rests: t.rest}
}

func (t *turns) come(number int) {
	flow := t.packets[number].Flow
	if len(t.queues[flow]) == 0 {
		t.row = append(t.row, flow)
	}
	t.queues[flow] = append(t.queues[flow], number)
	t.waiting++
}

// pick ends, as some packet waits: each flow's credit grows whenever its turn comes.
func (t *turns) pick() int {
	for {
		if t.served == nobody {
			t.serveNext()
		}
		if t.canSend() {
			return t.take()
		}
		t.row = append(t.row, t.served)
		t.served = nobody
	}
}

func (t *turns) rest() int { return t.waiting }

func (t *turns) serveNext() {
	t.served = t.row[0]
	t.row = slices.Delete(t.row, 0, 1)
	t.credits[t.served] += t.quanta[t.served]
}

func (t *turns) canSend() bool {
	first := t.queues[t.served][0]
	return t.packets[first].Size <= t.credits[t.served]
}

// take the served flow's first packet. Nothing comes in while it is sent, so that a queue that is empty now is empty behind it, too.
func (t *turns) take() int {
	flow := t.served
	number := t.queues[flow][0]
	t.queues[flow] = t.queues[flow][1:]
	t.credits[flow] -= t.packets[number].Size
	t.waiting--
	if len(t.queues[flow]) == 0 {
		t.credits[flow] = 0
		t.served = nobody
	}
	return number
}
