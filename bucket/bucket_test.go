package bucket_test

import (
	"math"
	"slices"
	"testing"

	"floodgate/api"
	"floodgate/bucket"
)

type (
	lines   = []api.Line
	packets = []api.Packet
)

// curve of Bursts and Rates, by turns.
func curve(numbers ...int) lines {
	var out lines
	for i := 0; i < len(numbers); i += 2 {
		out = append(out, api.Line{Burst: numbers[i], Rate: numbers[i+1]})
	}
	return out
}

// of makes packets of their Flows, Sizes and Ats, by turns.
func of(numbers ...int) packets {
	var out packets
	for i := 0; i < len(numbers); i += 3 {
		out = append(out, api.Packet{Flow: numbers[i], Size: numbers[i+1], At: numbers[i+2]})
	}
	return out
}

// many packets, all the same, of which the last one is another one.
func many(n int, last packets) packets {
	return append(slices.Repeat(of(1, 1, 7), n-len(last)), last...)
}

// made is a bucket of a line that is one.
func made(t *testing.T, burst, rate int) *bucket.Bucket {
	b, err := bucket.New(api.Line{Burst: burst, Rate: rate})
	if b == nil || err != nil {
		t.Fatal(burst, rate, err)
	}
	return b
}

// isFault tells whether err is just this error, at this place or bare (-1).
func isFault(err, want error, at int) bool {
	if at < 0 {
		return err == want
	}
	f, ok := err.(*api.Fault)
	return ok && f.At == at && f.Err == want
}

// wrong packets, with the error and the place that they have (-1: a bare error).
var wrong = []struct {
	p   packets
	err error
	at  int
}{
	{many(api.MaxPackets+1, nil), api.ErrBound, -1},
	{make(packets, api.MaxPackets+1), api.ErrBound, -1},
	{many(api.MaxPackets+1, of(1, 1, 6)), api.ErrBound, -1},
	{of(-1, 1, 0), api.ErrBound, 0},
	{of(api.MaxFlows, 1, 0), api.ErrBound, 0},
	{of(0, 0, 0), api.ErrBound, 0},
	{of(0, -1, 0), api.ErrBound, 0},
	{of(0, api.MaxSize+1, 0), api.ErrBound, 0},
	{of(0, 1, -1), api.ErrBound, 0},
	{of(0, 1, api.MaxTime+1), api.ErrBound, 0},
	{of(math.MinInt, 1, 0), api.ErrBound, 0},
	{of(math.MaxInt, 1, 0), api.ErrBound, 0},
	{of(0, math.MinInt, 0), api.ErrBound, 0},
	{of(0, math.MaxInt, 0), api.ErrBound, 0},
	{of(0, 1, math.MinInt), api.ErrBound, 0},
	{of(0, 1, math.MaxInt), api.ErrBound, 0},
	{of(0, 1, 5, 0, 1, 4), api.ErrOld, 1},
	{of(0, 1, 1, 0, 1, 0), api.ErrOld, 1},
	{of(0, 1, 5, 0, 1, 5, 3, 1, 9, 3, 1, 8), api.ErrOld, 3},
	{of(0, 1, 5, 0, 1, -1), api.ErrBound, 1},
	{of(0, 1, 5, 0, 0, 4), api.ErrBound, 1},
	{of(0, 1, 5, api.MaxFlows, 1, 4), api.ErrBound, 1},
	{of(0, 1, 5, 0, 1, 4, 0, 0, 9), api.ErrOld, 1},
	{of(0, 1, 5, 0, 0, 9, 0, 1, 4), api.ErrBound, 1},
	{many(api.MaxPackets, of(1, 1, 6)), api.ErrOld, api.MaxPackets - 1},
	{many(api.MaxPackets, of(1, 0, 7)), api.ErrBound, api.MaxPackets - 1},
}

// wrongCurves, with theirs.
var wrongCurves = []struct {
	l   lines
	err error
	at  int
}{
	{nil, api.ErrShape, -1},
	{lines{}, api.ErrShape, -1},
	{make(lines, api.MaxLines+1), api.ErrShape, -1},
	{curve(0, 1), api.ErrBound, 0},
	{curve(5, 5, api.MaxBurst+1, 1), api.ErrBound, 1},
	{curve(5, 5, 5, 5, 5, -1, 0, 0), api.ErrBound, 2},
	{curve(5, api.MaxRate+1), api.ErrBound, 0},
}

// P20.
func TestCheck(t *testing.T) {
	for _, p := range []packets{
		nil,
		{},
		of(0, 1, 0),
		of(api.MaxFlows-1, api.MaxSize, api.MaxTime),
		of(0, 1, 0, 1, 2, 0, 0, 3, 1, 5, 5, api.MaxTime, 4, 5, api.MaxTime),
		many(api.MaxPackets, nil),
	} {
		if err := bucket.Check(p); err != nil {
			t.Error(p, err)
		}
	}
	for _, c := range wrong {
		if err := bucket.Check(c.p); !isFault(err, c.err, c.at) {
			t.Error(c.p, err)
		}
	}
}

// P21: no bucket of what is no line.
func TestNew(t *testing.T) {
	for _, l := range curve(1, 0, 1, api.MaxRate, api.MaxBurst, 0, api.MaxBurst, api.MaxRate) {
		if b, err := bucket.New(l); b == nil || err != nil {
			t.Error(l, err)
		}
	}
	for _, l := range curve(0, 0, -1, 5, api.MaxBurst+1, 5, 1, -1, 1, api.MaxRate+1, math.MinInt, 1, math.MaxInt, 1, 1, math.MinInt, 1, math.MaxInt) {
		if b, err := bucket.New(l); b != nil || err != api.ErrBound {
			t.Error(l, b, err)
		}
	}
}

// step of a bucket's story: what it has, when it would have n, and whether it gives them (0: it is not asked).
type step struct {
	at, has, n, when int
	is               bool
}

// P21.
func TestBucket(t *testing.T) {
	const end = api.MaxTime
	for _, c := range []struct {
		name        string
		burst, rate int
		steps       []step
	}{
		{"just the burst", 10, 300, []step{{0, 10000, 10, 0, true}, {0, 0, 1, 4, false}, {3, 900, 1, 4, false}, {4, 1200, 1, 4, true}, {4, 200, 10, 37, false}, {36, 9800, 10, 37, false}, {37, 10000, 10, 37, true}}},
		{"one tick", 10, 1, []step{{7, 10000, 3, 7, true}, {7, 7000, 3, 7, true}, {7, 4000, 3, 7, true}, {7, 1000, 2, 1007, false}, {7, 1000, 1, 7, true}, {7, 0, 1, 1007, false}}},
		{"nothing is lost", 2, 333, []step{{0, 2000, 2, 0, true}, {1, 333, 1, 4, false}, {2, 666, 1, 4, false}, {3, 999, 1, 4, false}, {4, 1332, 1, 4, true}, {4, 332, 1, 7, false}, {6, 998, 1, 7, false}, {7, 1331, 2, 10, false}, {10, 2000, 2, 10, true}}},
		{"more than a burst in a tick", 3, 5000, []step{{0, 3000, 3, 0, true}, {0, 0, 3, 1, false}, {1, 3000, 2, 1, true}, {1, 1000, 3, 2, false}, {2, 3000, 3, 2, true}}},
		{"full for long", 5, api.MaxRate, []step{{end - 1, 5000, 5, end - 1, true}, {end - 1, 0, 5, end, false}, {end, 5000, 5, end, true}, {end, 0, 0, 0, false}}},
		{"full for long, then again", 1500, 3, []step{{1 << 39, 1500000, 1500, 1 << 39, true}, {end - 1, 1500000, 1500, end - 1, true}, {end, 3, 0, 0, false}}},
		{"without a rate", 9, 0, []step{{0, 9000, 4, 0, true}, {3, 5000, 4, 3, true}, {end, 1000, 1, end, true}, {end, 0, 0, 0, false}}},
		{"the greatest", api.MaxBurst, api.MaxRate, []step{{0, 20000000, 1500, 0, true}, {0, 18500000, 1500, 0, true}, {1, 17100000, 1500, 1, true}, {31, 18600000, 0, 0, false}, {45, 20000000, 0, 0, false}}},
		{"at the last tick", 1, 1, []step{{end - 1000, 1000, 1, end - 1000, true}, {end - 1000, 0, 1, end, false}, {end - 1, 999, 1, end, false}, {end, 1000, 1, end, true}}},
	} {
		b := made(t, c.burst, c.rate)
		for i, s := range c.steps {
			if has, err := b.Has(s.at); has != s.has || err != nil {
				t.Error(c.name, i, has, err)
			}
			if s.n == 0 {
				continue
			}
			when, e1 := b.When(s.at, s.n)
			is, e2 := b.Take(s.at, s.n)
			if when != s.when || is != s.is || e1 != nil || e2 != nil {
				t.Error(c.name, i, when, is, e1, e2)
			}
		}
	}
}

// P21: wrong ticks and sizes, the bounds ahead of what is old, and what is old ahead of what never comes.
func TestBucketFaults(t *testing.T) {
	b := made(t, 10, 1)
	if is, err := b.Take(100, 4); !is || err != nil {
		t.Fatal(is, err)
	}
	for _, c := range []struct {
		at, n int
		err   error
	}{
		{-1, 1, api.ErrBound},
		{math.MinInt, 1, api.ErrBound},
		{api.MaxTime + 1, 1, api.ErrBound},
		{math.MaxInt, 1, api.ErrBound},
		{200, 0, api.ErrBound},
		{200, -1, api.ErrBound},
		{200, api.MaxSize + 1, api.ErrBound},
		{200, math.MinInt, api.ErrBound},
		{200, math.MaxInt, api.ErrBound},
		{99, 0, api.ErrBound},
		{99, api.MaxSize + 1, api.ErrBound},
		{99, 1, api.ErrOld},
		{0, 1, api.ErrOld},
		{99, 11, api.ErrOld},
	} {
		is, e1 := b.Take(c.at, c.n)
		when, e2 := b.When(c.at, c.n)
		if is || when != 0 || e1 != c.err || e2 != c.err {
			t.Error(c, is, when, e1, e2)
		}
		if c.n != 1 {
			continue
		}
		if has, err := b.Has(c.at); has != 0 || err != c.err {
			t.Error(c, has, err)
		}
	}
	// P3: none of these changed anything.
	if has, err := b.Has(100); has != 6000 || err != nil {
		t.Error(has, err)
	}
}

// P21: there is no such tick, ever or up to MaxTime.
func TestWhenNone(t *testing.T) {
	for _, c := range []struct{ burst, rate, took, at, n int }{
		{10, api.MaxRate, 0, 0, 11},
		{10, api.MaxRate, 0, api.MaxTime, api.MaxSize},
		{10, 0, 0, 5, 11},
		{10, 0, 4, 5, 7},
		{1, 0, 1, 0, 1},
		{1, 1, 1, api.MaxTime - 999, 1},
		{1, 1, 1, api.MaxTime, 1},
		{5, api.MaxRate, 5, api.MaxTime, 1},
	} {
		b := made(t, c.burst, c.rate)
		if c.took > 0 {
			if is, err := b.Take(c.at, c.took); !is || err != nil {
				t.Error(c, is, err)
			}
		}
		if at, err := b.When(c.at, c.n); at != 0 || err != api.ErrNone {
			t.Error(c, at, err)
		}
		if is, err := b.Take(c.at, c.n); is || err != nil {
			t.Error(c, is, err)
		}
	}
}

// P21: what is old hangs on Takes alone; also on those that got nothing.
func TestOld(t *testing.T) {
	b := made(t, 10, 0)
	for _, at := range []int{50, api.MaxTime, 7} {
		has, e1 := b.Has(at)
		when, e2 := b.When(at, 10)
		if has != 10000 || when != at || e1 != nil || e2 != nil {
			t.Error(at, has, when, e1, e2)
		}
	}
	if is, err := b.Take(30, 11); is || err != nil {
		t.Error(is, err)
	}
	if is, err := b.Take(29, 1); is || err != api.ErrOld {
		t.Error(is, err)
	}
	if _, err := b.Has(29); err != api.ErrOld {
		t.Error(err)
	}
	if is, err := b.Take(30, 10); !is || err != nil {
		t.Error(is, err)
	}
}

// P2: a bucket hangs on its own calls.
func TestTwoBuckets(t *testing.T) {
	a, b := made(t, 10, 100), made(t, 10, 100)
	if is, err := a.Take(40, 10); !is || err != nil {
		t.Error(is, err)
	}
	if has, err := b.Has(3); has != 10000 || err != nil {
		t.Error(has, err)
	}
}
