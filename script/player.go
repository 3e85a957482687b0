package script

import (
	"errors"
	"slices"
	"strings"

	"floodgate/api"
	"floodgate/bucket"
	"floodgate/curve"
	"floodgate/fifo"
	"floodgate/gate"
)

// kindInOrder is the one kind whose link has no numbers.
const kindInOrder = "fifo"

// player of a script: its gate, and the packets that come to it. Both are well at any time, since what is not is told, and not kept.
type player struct {
	gate.Gate
	packets []api.Packet
}

func newPlayer() *player {
	return &player{Gate: gate.Gate{Curves: make([][]api.Line, api.MaxFlows), Kind: kindInOrder, Per: 1}}
}

// answer of a line.
func (p *player) answer(line string) string {
	said, err := p.obey(line)
	if err != nil {
		return err.Error()
	}
	return said
}

func (p *player) obey(line string) (string, error) {
	name, rest, more := strings.Cut(line, blank)
	if more {
		return p.obeyWith(name, strings.Split(rest, blank))
	}
	switch name {
	case "clear":
		p.packets = nil
		return sayDone(nil)
	case "run":
		return saySent(p.run())
	case "bound":
		return sayNumber(gate.Bound(p.Gate))
	case "worst":
		return sayNumber(p.worst())
	}
	return "", api.ErrText
}

// obeyWith words behind the command's name: there is one at least, which may be empty.
func (p *player) obeyWith(name string, words []string) (string, error) {
	switch name {
	case "curve":
		return sayDone(p.setCurve(words))
	case "link":
		return sayDone(p.setLink(words))
	case "numbers":
		return sayDone(p.setNumbers(words))
	case "packet":
		return sayDone(p.addPacket(words))
	case "at":
		return sayNumber(p.at(words))
	}
	return "", api.ErrText
}

func (p *player) setCurve(words []string) error {
	flow, err := readFlow(words[0])
	if err != nil {
		return err
	}
	l, err := readLines(words[1:])
	if err != nil {
		return err
	}
	if len(l) > 0 { // an empty one is no curve, but a gate has it where nothing holds a flow back
		if err := curve.Check(l); err != nil {
			return err
		}
	}
	p.Curves[flow] = l
	return nil
}

func (p *player) setLink(words []string) error {
	if len(words) != 2 {
		return api.ErrText
	}
	per, err := readNumber(words[1])
	if err != nil {
		return err
	}
	g := p.Gate
	g.Kind, g.Per, g.Numbers = words[0], per, firstNumbers(words[0])
	err = p.change(g)
	if errors.Is(err, api.ErrKind) {
		return api.ErrText // a line without a kind is none
	}
	return err
}

func (p *player) setNumbers(words []string) error {
	if len(words) != api.MaxFlows {
		return api.ErrText
	}
	numbers, err := readNumbers(words)
	if err != nil {
		return err
	}
	g := p.Gate
	g.Numbers = numbers
	return p.change(g)
}

// change the gate to this one, if that is well.
func (p *player) change(g gate.Gate) error {
	if err := gate.Check(g); err != nil {
		return err
	}
	p.Gate = g
	return nil
}

func (p *player) addPacket(words []string) error {
	if len(words) != 3 {
		return api.ErrText
	}
	flow, err := readDigit(words[0])
	if err != nil {
		return err
	}
	numbers, err := readNumbers(words[1:])
	if err != nil {
		return err
	}
	more := append(p.packets, api.Packet{Flow: flow, Size: numbers[0], At: numbers[1]})
	if err := bucket.Check(more); err != nil {
		return err
	}
	p.packets = more
	return nil
}

func (p *player) run() ([]api.Sent, error) {
	_, sent, err := gate.Run(p.Gate, p.packets)
	return sent, err
}

// worst delay at the link: the shapers' is none of it, as it is none of the gate's bound.
func (p *player) worst() (int, error) {
	shaped, sent, err := gate.Run(p.Gate, p.packets)
	if err != nil || len(sent) == 0 {
		return 0, err
	}
	delays, err := fifo.Delays(shaped, sent)
	if err != nil {
		return 0, err
	}
	return slices.Max(delays), nil
}

func (p *player) at(words []string) (int, error) {
	if len(words) != 2 {
		return 0, api.ErrText
	}
	flow, err := readFlow(words[0])
	if err != nil {
		return 0, err
	}
	tick, err := readNumber(words[1])
	if err != nil {
		return 0, err
	}
	return curve.At(p.Curves[flow], tick)
}

// firstNumbers of a link of this kind.
func firstNumbers(kind string) []int {
	if kind == kindInOrder {
		return nil
	}
	return slices.Repeat([]int{1}, api.MaxFlows)
}
