package bucket

// thousand: a bucket counts in thousandths of bytes, of which it gets whole ones in each tick: so many as its line has bytes in a thousand ticks.
const thousand = 1000

// line of a bucket: what it has at most, and what it gets in a tick, both in thousandths. It is not api.Line, whose fields everybody could change in a bucket that has it embedded.
type line struct{ most, rate int }

// after so many ticks in which nothing is taken.
func (l line) after(has, ticks int) int { return min(l.most, has+l.rate*ticks) }

// until it has what is wanted: so many ticks, if ever.
func (l line) until(has, want int) (int, bool) {
	if has >= want {
		return 0, true
	}
	if want > l.most || l.rate == 0 {
		return 0, false
	}
	return (want - has + l.rate - 1) / l.rate, true
}
