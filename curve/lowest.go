package curve

import (
	"cmp"
	"slices"

	"floodgate/api"
)

// each line of a with each of b.
func each(a, b []api.Line) []api.Line {
	var out []api.Line
	for _, x := range a {
		for _, y := range b {
			out = append(out, api.Line{Burst: x.Burst + y.Burst, Rate: x.Rate + y.Rate})
		}
	}
	return out
}

// lowest lines: the steeper a line, the sooner it is the least one, if ever; so one look in that order is enough, in which each line drops those ahead that it leaves no time to.
func lowest(l []api.Line) []api.Line {
	var out []api.Line
	for _, x := range steepestFirst(l) {
		for len(out) > 0 && isCovered(out, x) {
			out = out[:len(out)-1]
		}
		out = append(out, x)
	}
	return out
}

// steepestFirst leaves, of lines of one Rate, the lowest one for the end, so that it drops the others.
func steepestFirst(l []api.Line) []api.Line {
	out := slices.Clone(l)
	slices.SortFunc(out, func(x, y api.Line) int {
		return cmp.Or(cmp.Compare(y.Rate, x.Rate), cmp.Compare(y.Burst, x.Burst))
	})
	return out
}

// isCovered tells whether the last line of l is nowhere the least one, once x (no steeper) stands behind it.
func isCovered(l []api.Line, x api.Line) bool {
	top := l[len(l)-1]
	if x.Burst <= top.Burst {
		return true
	}
	if len(l) == 1 {
		return false
	}
	// It begins to be the least one where it meets the line ahead, and ends to be so where it meets x.
	ahead := l[len(l)-2]
	return (top.Burst-ahead.Burst)*(top.Rate-x.Rate) >= (x.Burst-top.Burst)*(ahead.Rate-top.Rate)
}
