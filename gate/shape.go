package gate

import (
	"cmp"
	"errors"
	"slices"

	"floodgate/api"
	"floodgate/bucket"
)

// shapeAll packets, each flow's by its curve: they stand as they come to the link.
func shapeAll(curves [][]api.Line, p []api.Packet) ([]api.Packet, error) {
	out := slices.Clone(p)
	stuck := len(p)
	for flow, l := range curves {
		if !isEmpty(l) {
			stuck = min(stuck, shapeFlow(l, out, flow))
		}
	}
	if stuck < len(p) {
		return nil, &api.Fault{At: stuck, Err: api.ErrNone}
	}
	// They still stand by their numbers: those of one tick must stay so.
	slices.SortStableFunc(out, func(x, y api.Packet) int { return cmp.Compare(x.At, y.At) })
	return out, nil
}

// shapeFlow delays this flow's packets, in place. It tells the number of the first that never leaves, or else a number behind all.
func shapeFlow(l []api.Line, p []api.Packet, flow int) int {
	numbers := numbersOf(p, flow)
	own := make([]api.Packet, len(numbers))
	for i, number := range numbers {
		own[i] = p[number]
	}
	shaped, err := bucket.Shape(l, own)
	var f *api.Fault
	if errors.As(err, &f) {
		return numbers[f.At]
	}
	for i, x := range shaped {
		p[numbers[i]] = x
	}
	return len(p)
}

func numbersOf(p []api.Packet, flow int) []int {
	var out []int
	for number, x := range p {
		if x.Flow == flow {
			out = append(out, number)
		}
	}
	return out
}
