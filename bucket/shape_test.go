package bucket_test

import (
	"slices"
	"testing"

	"floodgate/api"
	"floodgate/bucket"
)

// P22.
func TestShape(t *testing.T) {
	const end = api.MaxTime
	for _, c := range []struct {
		name    string
		l       lines
		p, want packets
	}{
		{"none", curve(1, 0), nil, nil},
		{"just the burst", curve(10, 1), of(3, 10, 0), of(3, 10, 0)},
		{"twice the burst", curve(10, 100), of(3, 10, 4, 3, 10, 4), of(3, 10, 4, 3, 10, 104)},
		{"one tick", curve(5, 1000), of(0, 2, 9, 1, 2, 9, 2, 2, 9, 3, 2, 9), of(0, 2, 9, 1, 2, 9, 2, 2, 10, 3, 2, 12)},
		{"behind one that waits", curve(10, 1000), of(0, 8, 0, 0, 8, 1, 7, 1, 2), of(0, 8, 0, 0, 8, 6, 7, 1, 7)},
		{"a small one behind a great one", curve(10, 1000), of(0, 9, 0, 1, 10, 0, 2, 1, 0), of(0, 9, 0, 1, 10, 9, 2, 1, 10)},
		{"at once behind one that waits", curve(4, 4000), of(0, 4, 0, 0, 1, 0, 0, 3, 0), of(0, 4, 0, 0, 1, 1, 0, 3, 1)},
		{"two lines", curve(10, 500, 7, 1000), of(0, 6, 1, 0, 6, 1, 1, 2, 2, 0, 1, 50), of(0, 6, 1, 0, 6, 6, 1, 2, 9, 0, 1, 50)},
		{"two lines, the other way", curve(7, 1000, 10, 500), of(0, 6, 1, 0, 6, 1, 1, 2, 2, 0, 1, 50), of(0, 6, 1, 0, 6, 6, 1, 2, 9, 0, 1, 50)},
		{"the first line counts, then the second", curve(4, 1000, 8, 100), of(0, 4, 0, 0, 4, 0, 0, 4, 0), of(0, 4, 0, 0, 4, 4, 0, 4, 40)},
		{"a packet between two ticks", curve(3, 400), of(0, 3, 0, 0, 1, 0, 0, 1, 0), of(0, 3, 0, 0, 1, 3, 0, 1, 5)},
		{"full for long", curve(3, 400), of(0, 3, end-3, 0, 1, end-3), of(0, 3, end-3, 0, 1, end)},
		{"without a rate", curve(9, 0), of(0, 4, 2, 1, 5, end), of(0, 4, 2, 1, 5, end)},
		{"the greatest", curve(api.MaxBurst, api.MaxRate), slices.Repeat(of(7, api.MaxSize, 3), 15), append(slices.Repeat(of(7, api.MaxSize, 3), 13), of(7, api.MaxSize, 13, 7, api.MaxSize, 28)...)},
	} {
		x, err := bucket.Shape(c.l, c.p)
		if !slices.Equal(x, c.want) || err != nil {
			t.Error(c.name, x, err)
		}
	}
}

// P22: the first that never leaves.
func TestShapeNone(t *testing.T) {
	const end = api.MaxTime
	for _, c := range []struct {
		name string
		l    lines
		p    packets
		at   int
	}{
		{"more than the burst", curve(5, 1000), of(0, 6, 0), 0},
		{"more than one burst", curve(9, 1000, 5, api.MaxRate), of(0, 5, 0, 0, 6, 0, 0, 7, 9), 1},
		{"more than the last burst", curve(9, 1000, 8, 1000, 5, 1000), of(0, 6, 3), 0},
		{"without a rate", curve(7, 0), of(0, 7, 1, 0, 1, 1, 0, 9, 1), 1},
		{"one line without a rate", curve(5, 100, 11, 0), of(0, 5, 0, 1, 5, 0, 2, 2, 0), 2},
		{"behind the last tick", curve(3, 400), of(0, 3, end-2, 0, 1, end-2), 1},
		{"behind the last tick, by the one ahead", curve(3, 400), of(0, 3, end-4, 0, 1, end-4, 0, 1, end-4, 0, 1, end), 2},
	} {
		x, err := bucket.Shape(c.l, c.p)
		if len(x) != 0 || !isFault(err, api.ErrNone, c.at) {
			t.Error(c.name, x, err)
		}
	}
}

// P22.
func TestFits(t *testing.T) {
	for _, c := range []struct {
		name string
		l    lines
		p    packets
		want bool
	}{
		{"none", curve(1, 0), nil, true},
		{"just the burst", curve(10, 0), of(0, 10, 4), true},
		{"more than the burst", curve(10, api.MaxRate), of(0, 11, api.MaxTime), false},
		{"one tick", curve(10, api.MaxRate), of(0, 4, 3, 1, 4, 3, 2, 2, 3), true},
		{"one tick, too much", curve(10, api.MaxRate), of(0, 4, 3, 1, 4, 3, 2, 3, 3), false},
		{"as soon as may be", curve(10, 300), of(0, 10, 0, 0, 1, 4), true},
		{"too soon", curve(10, 300), of(0, 10, 0, 0, 1, 3), false},
		{"too soon, of all flows together", curve(10, 300), of(5, 10, 0, 6, 1, 3), false},
		{"from the first one on", curve(6, 1000), of(0, 3, 0, 0, 3, 1, 0, 2, 2), true},
		{"from the first one on, too much", curve(6, 1000), of(0, 3, 0, 0, 3, 1, 0, 3, 2), false},
		{"from one between, too much", curve(6, 1000), of(0, 1, 0, 0, 3, 50, 0, 3, 51, 0, 2, 51, 0, 1, 99), false},
		{"the last ones, too much", curve(6, 1000), of(0, 1, 0, 0, 3, 50, 0, 6, 52), false},
		{"two lines", curve(6, 1000, 8, 500), of(0, 6, 0, 0, 4, 4), true},
		{"two lines, the first", curve(6, 1000, 9, 500), of(0, 6, 0, 0, 4, 3), false},
		{"two lines, the second", curve(6, 1000, 7, 500), of(0, 6, 0, 0, 4, 4), false},
		{"without a rate", curve(9, 0), of(0, 4, 0, 0, 5, api.MaxTime), true},
		{"without a rate, too much", curve(9, 0), of(0, 4, 0, 0, 5, 9, 0, 1, api.MaxTime), false},
		{"the farthest", curve(api.MaxSize, 1), of(0, api.MaxSize, 0, 0, api.MaxSize, api.MaxTime), true},
	} {
		if is, err := bucket.Fits(c.l, c.p); is != c.want || err != nil {
			t.Error(c.name, is, err)
		}
	}
}

// P22: wrong packets, and then a wrong curve, ahead of what never leaves or doesn't fit.
func TestShapeFaults(t *testing.T) {
	curves := []lines{curve(1, 0), nil, curve(0, 0)}
	for _, c := range wrong {
		for _, l := range curves {
			x, e1 := bucket.Shape(l, c.p)
			is, e2 := bucket.Fits(l, c.p)
			if len(x) != 0 || is || !isFault(e1, c.err, c.at) || !isFault(e2, c.err, c.at) {
				t.Error(c.p, l, x, is, e1, e2)
			}
		}
	}
	for _, c := range wrongCurves {
		for _, p := range []packets{nil, of(0, 1, 0), of(0, 6, 0), many(api.MaxPackets, nil)} {
			x, e1 := bucket.Shape(c.l, p)
			is, e2 := bucket.Fits(c.l, p)
			if len(x) != 0 || is || !isFault(e1, c.err, c.at) || !isFault(e2, c.err, c.at) {
				t.Error(c.l, p, x, is, e1, e2)
			}
		}
	}
}

// P2, P4: what is handed over is only read, what is answered is new, and the same each time.
func TestMemory(t *testing.T) {
	allLines, all := curve(5, 1000, 9, 500, 7, 7), of(0, 4, 0, 1, 4, 0, 2, 4, 1, 9, 9, 9)
	l, p := allLines[:2], all[:3]
	linesBefore, before := slices.Clone(allLines), slices.Clone(all)
	for range 3 {
		x, e1 := bucket.Shape(l, p)
		is, e2 := bucket.Fits(l, p)
		if !slices.Equal(x, of(0, 4, 0, 1, 4, 3, 2, 4, 7)) || is || e1 != nil || e2 != nil {
			t.Fatal(x, is, e1, e2)
		}
		clear(x[:cap(x)])
		if !slices.Equal(all, before) || !slices.Equal(allLines, linesBefore) {
			t.Fatal(all, allLines)
		}
	}
	line := api.Line{Burst: 5, Rate: 1}
	b, err := bucket.New(line)
	if err != nil {
		t.Fatal(err)
	}
	line.Burst = 1
	if has, err := b.Has(0); has != 5000 || err != nil {
		t.Error(has, err)
	}
}
