package gate

import (
	"slices"

	"floodgate/api"
	"floodgate/curve"
	"floodgate/fault"
)

func checkCurves(curves [][]api.Line) error {
	if len(curves) != api.MaxFlows {
		return api.ErrShape
	}
	for flow, l := range curves {
		if isEmpty(l) {
			continue
		}
		if err := curve.Check(l); err != nil {
			return fault.At(flow, err)
		}
	}
	return nil
}

// together: a curve of all flows ahead of the first one that has none, since nothing holds back what comes of that one.
func together(curves [][]api.Line) ([]api.Line, error) {
	if n := slices.IndexFunc(curves, isEmpty); n >= 0 {
		curves = curves[:n]
	}
	if len(curves) == 0 {
		return nil, api.ErrNone
	}
	sum := curves[0]
	for _, l := range curves[1:] {
		more, err := curve.Sum(sum, l)
		if err != nil {
			return nil, err
		}
		sum = more
	}
	return sum, nil
}

func isEmpty(l []api.Line) bool { return len(l) == 0 }
