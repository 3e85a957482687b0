package side_test

import (
	"slices"
	"testing"

	"floodgate/api"
	"floodgate/side"
)

// P100: none, one, some.
func TestDelays(t *testing.T) {
	for _, c := range []struct {
		name string
		l    []lines
		per  int
		want []int
	}{
		{"no list of curves", nil, 2, nil},
		{"no curves", []lines{}, 2, nil},
		{"one, as the document tells", []lines{line(5, 100)}, 2, []int{10}},
		{"one byte", []lines{line(1, 0)}, 1, []int{1}},
		{"two", []lines{line(3, 0), line(5, 100)}, 2, []int{6, 10}},
		{"two, the other way round", []lines{line(5, 100), line(3, 0)}, 2, []int{10, 6}},
		{"the same one twice", []lines{line(5, 100), line(5, 100)}, 2, []int{10, 10}},
		{"of more lines", []lines{line(10, 0, 4, 1000), line(4, 1000, 10, 0), line(10, 0)}, 2, []int{14, 14, 20}},
		{"the slowest link", []lines{line(api.MaxBurst, 1), line(1, api.MaxRate, 7, 0)}, api.MaxPer, []int{api.MaxBurst * api.MaxPer, 7*api.MaxPer - 1}},
		{"as many lines as may be", []lines{line(1, 9, 2, 8, 3, 7, 4, 6, 5, 5, 6, 4), line(6, 4)}, 1, []int{1, 6}},
	} {
		delays(t, c.name, c.l, c.per, c.want)
	}
}

// P100: each answer stands where its curve does, up to as many as may be.
func TestDelaysMany(t *testing.T) {
	for _, n := range []int{1, 2, 3, api.Workers - 1, api.Workers, api.Workers + 1, most - 1, most} {
		l, want := make([]lines, n), make([]int, n)
		for i := range n {
			l[i], want[i] = line(1+i*i, i%9), 3*(1+i*i)
		}
		delays(t, "many", l, 3, want)
	}
}

// P100: workers come first, whatever else is wrong.
func TestDelaysWorkers(t *testing.T) {
	lists := [][]lines{nil, {nil}, {line(1, 0)}, {line(0, 0)}, make([]lines, most), make([]lines, most+1)}
	for _, workers := range wrongWorkers {
		for _, l := range lists {
			for _, per := range []int{1, 0, low, high} {
				if got, err := side.Delays(l, per, workers); len(got) != 0 || err != api.ErrShape {
					t.Error(workers, l, per, got, err)
				}
			}
		}
	}
}

// P100: then how many there are, whatever the link and they are.
func TestDelaysBound(t *testing.T) {
	for _, n := range []int{most + 1, most + 2, 1000} {
		for _, c := range []lines{nil, line(1, 0), line(0, 0), line(1, api.MaxRate)} {
			for _, per := range []int{1, api.MaxPer, 0, api.MaxPer + 1} {
				delaysFail(t, "too many", slices.Repeat([]lines{c}, n), per, api.ErrBound, bare)
			}
		}
	}
}

// P100: the first that has an error, with that error alone.
func TestDelaysFault(t *testing.T) {
	good, wrong, never := line(5, 100), line(1, 1, 1, 1, 1, -1), line(5, 501, 9, 900)
	tooMany := make(lines, api.MaxLines+1)
	long := line(1, 500, api.MaxBurst, 499) // they meet late
	for _, c := range []struct {
		name string
		l    []lines
		err  error
		at   int
	}{
		{"the only one is empty", []lines{nil}, api.ErrShape, 0},
		{"the only one is empty, not nil", []lines{{}}, api.ErrShape, 0},
		{"the only one is wrong", []lines{wrong}, api.ErrBound, 0},
		{"the only one brings too much", []lines{never}, api.ErrNone, 0},
		{"the only one has too many lines", []lines{tooMany}, api.ErrShape, 0},
		{"the last one is empty", []lines{good, nil}, api.ErrShape, 1},
		{"the last one is wrong", []lines{good, good, good, wrong}, api.ErrBound, 3},
		{"the last one brings too much", []lines{good, long, never}, api.ErrNone, 2},
		{"empty, then wrong", []lines{good, {}, wrong}, api.ErrShape, 1},
		{"wrong, then empty", []lines{good, wrong, {}}, api.ErrBound, 1},
		{"too much, then wrong, then empty", []lines{long, good, never, wrong, nil}, api.ErrNone, 2},
		{"all of them", slices.Repeat([]lines{wrong}, most), api.ErrBound, 0},
		{"all are empty", make([]lines, most), api.ErrShape, 0},
		{"the last of as many as may be", append(slices.Repeat([]lines{long}, most-1), never), api.ErrNone, most - 1},
		{"all but those that take long", append([]lines{long, long, never}, slices.Repeat([]lines{wrong, nil}, 40)...), api.ErrNone, 2},
	} {
		for range 3 {
			delaysFail(t, c.name, c.l, 2, c.err, c.at)
		}
	}
}

// P100: a link that is none is the fault of the first curve, or else of nobody; what is wrong with that curve comes first.
func TestDelaysLink(t *testing.T) {
	for _, per := range []int{low, -1, 0, api.MaxPer + 1, high} {
		delays(t, "no curves", nil, per, nil)
		delaysFail(t, "one", []lines{line(1, 0)}, per, api.ErrBound, 0)
		delaysFail(t, "two", []lines{line(1, api.MaxRate), nil}, per, api.ErrBound, 0)
		delaysFail(t, "the first is empty", []lines{nil, line(1, 0)}, per, api.ErrShape, 0)
		delaysFail(t, "as many as may be", slices.Repeat([]lines{line(1, 0)}, most), per, api.ErrBound, 0)
	}
}

// P100: each place may be the first.
func TestDelaysPlaces(t *testing.T) {
	for at := range most {
		l := slices.Repeat([]lines{line(5, 100)}, most)
		l[at] = line(5, 1001)
		for other := at + 7; other < most; other += 7 {
			l[other] = line(0, 0)
		}
		for _, workers := range []int{1, 2, 5, api.Workers} {
			if got, err := side.Delays(l, 1, workers); len(got) != 0 || !isFault(err, api.ErrNone, at) {
				t.Error(at, workers, got, err)
			}
		}
	}
}
