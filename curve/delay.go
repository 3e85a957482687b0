package curve

import "floodgate/api"

// farBytes is more than any turn (see longest): lines of which one is fast and one is not differ in Rate by 1 at least, so they meet within 1000 times MaxBurst ticks, and in these the one that is not fast brings at most as many bytes as there are ticks.
const farBytes = 1001 * api.MaxBurst

// longest delay. It is looked for byte by byte, not tick by tick: the last of n bytes waits per*n less the tick at which it comes, and that rises as long as bytes come faster than the link sends, and never again after that. The turn is the first byte that does not come faster; rounding to ticks leaves only it and the one ahead.
func longest(l []api.Line, per int) int {
	turn := first(1, farBytes, func(n int) bool {
		x := last(l, n)
		return missing(x, n) > 0 && x.Rate*per <= thousand
	})
	delay := wait(l, per, turn-1)
	if last(l, turn).Rate > 0 { // else that byte never comes
		delay = max(delay, wait(l, per, turn))
	}
	return delay
}

func wait(l []api.Line, per, n int) int {
	return per*n - comes(last(l, n), n)
}

// comes tells the tick at which a line has n bytes.
func comes(x api.Line, n int) int {
	m := missing(x, n)
	if m == 0 {
		return 0
	}
	return (m*thousand + x.Rate - 1) / x.Rate
}

// last line to have n bytes: the one that holds the curve back.
func last(l []api.Line, n int) api.Line {
	x := l[0]
	for _, y := range l[1:] {
		if isLater(y, x, n) {
			x = y
		}
	}
	return x
}

// isLater holds fractions of ticks against each other, since whole ticks would hide which line is the later one.
func isLater(x, y api.Line, n int) bool {
	mx, my := missing(x, n), missing(y, n)
	if my == 0 {
		return mx > 0
	}
	return mx*y.Rate > my*x.Rate
}

func missing(x api.Line, n int) int {
	return max(n-x.Burst, 0)
}
