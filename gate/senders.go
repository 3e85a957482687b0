package gate

import (
	"floodgate/api"
	"floodgate/fair"
	"floodgate/fifo"
	"floodgate/rank"
	"floodgate/round"
)

// kindInOrder is the one kind whose bound is another one than that of all links.
const kindInOrder = "fifo"

// sender of packets over a link of some kind, with a number for each flow.
type sender func(p []api.Packet, per int, numbers []int) ([]api.Sent, error)

// senders by their kinds.
func senders() map[string]sender {
	return map[string]sender{
		kindInOrder: withoutNumbers(fifo.Run),
		"rank":      rank.Run,
		"due":       rank.Deadlines,
		"round":     round.Run,
		"fair":      fair.Run,
	}
}

// withoutNumbers makes a sender of a rule that asks for none, so that there must be none.
func withoutNumbers(run func(p []api.Packet, per int) ([]api.Sent, error)) sender {
	return func(p []api.Packet, per int, numbers []int) ([]api.Sent, error) {
		sent, err := run(p, per)
		if err != nil {
			return nil, err
		}
		if len(numbers) > 0 {
			return nil, api.ErrShape
		}
		return sent, nil
	}
}
