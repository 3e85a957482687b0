package bucket

import (
	"floodgate/api"
	"floodgate/curve"
)

// Shape packets.
func Shape(l []api.Line, p []api.Packet) ([]api.Packet, error) {
	if err := checkBoth(l, p); err != nil {
		return nil, err
	}
	s := fullShaper(l)
	out := make([]api.Packet, len(p))
	left := 0
	for i, x := range p {
		at, err := s.pass(max(x.At, left), x.Size)
		if err != nil {
			return nil, &api.Fault{At: i, Err: err}
		}
		x.At, left = at, at
		out[i] = x
	}
	return out, nil
}

// Fits a curve?
func Fits(l []api.Line, p []api.Packet) (bool, error) {
	if err := checkBoth(l, p); err != nil {
		return false, err
	}
	for i := range p {
		ok, err := startFits(l, p[i:])
		if !ok || err != nil {
			return false, err
		}
	}
	return true, nil
}

func checkBoth(l []api.Line, p []api.Packet) error {
	if err := Check(p); err != nil {
		return err
	}
	return curve.Check(l)
}

// startFits tells whether what comes from the first packet on, up to any of them, is as little as the curve asks.
func startFits(l []api.Line, p []api.Packet) (bool, error) {
	came := 0
	for _, x := range p {
		came += x.Size
		may, err := curve.At(l, x.At-p[0].At)
		if err != nil || came > may {
			return false, err
		}
	}
	return true, nil
}

// shaper has a bucket of each line of a curve.
type shaper []*Bucket

func fullShaper(l []api.Line) shaper {
	s := make(shaper, len(l))
	for i, x := range l {
		s[i] = full(x)
	}
	return s
}

// pass lets so many bytes leave at the first tick that may be, from at on.
func (s shaper) pass(at, n int) (int, error) {
	// A bucket that has enough at one tick has it at all later ones, too: so each may put the tick off, in turn.
	for _, b := range s {
		later, err := b.When(at, n)
		if err != nil {
			return 0, err
		}
		at = later
	}
	for _, b := range s {
		if _, err := b.Take(at, n); err != nil {
			return 0, err
		}
	}
	return at, nil
}
