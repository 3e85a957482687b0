package side_test

import (
	"slices"
	"sync"
	"testing"

	"floodgate/api"
	"floodgate/curve"
	"floodgate/gate"
	"floodgate/side"
)

// source of numbers that look like none in order, the same ones in each run.
type source uint32

func (s *source) below(n int) int {
	*s = *s*1664525 + 1013904223
	return int(*s>>8) % n
}

func (s *source) packets(most, sizes, gaps int) packets {
	p := make(packets, s.below(most+1))
	at := s.below(gaps)
	for i := range p {
		p[i] = api.Packet{Flow: s.below(api.MaxFlows), Size: 1 + s.below(sizes), At: at}
		at += s.below(gaps)
	}
	return p
}

func (s *source) curve(most, bursts, rates int) lines {
	l := make(lines, 1+s.below(most))
	for i := range l {
		l[i] = api.Line{Burst: 1 + s.below(bursts), Rate: s.below(rates)}
	}
	return l
}

// gate of a kind that lets packets of these sizes through, but one time in so many holds some for ever.
func (s *source) gate(kind string, sizes int) gate.Gate {
	g := by(kind, 1+s.below(4))
	for flow := range g.Curves {
		if s.below(2) == 0 {
			continue
		}
		g.Curves[flow] = s.curve(3, 9, 900)
		for i := range g.Curves[flow] {
			g.Curves[flow][i].Burst += sizes
			g.Curves[flow][i].Rate++
			if s.below(15) == 0 {
				g.Curves[flow][i].Rate = 0
			}
		}
	}
	for flow := range g.Numbers {
		g.Numbers[flow] = []int{1, 2, 3, 4, 6, 12}[s.below(6)]
	}
	return g
}

// first error of a list, its own place aside, and its number there.
func first(errs []error) (error, int) {
	for i, err := range errs {
		if f, ok := err.(*api.Fault); ok {
			return f.Err, i
		}
		if err != nil {
			return err, i
		}
	}
	return nil, bare
}

// P100, P101: as gate.Run of each, one behind the other, by however many.
func TestRunsAlways(t *testing.T) {
	var s source
	well, failed := 0, map[error]int{}
	for i := range 300 {
		sizes := []int{1, 4, 12}[i/5%3]
		g := s.gate(kinds[i%len(kinds)], sizes)
		l := make([]packets, s.below([]int{4, 20, most + 1}[i%3]))
		want, errs := make([]sents, len(l)), make([]error, len(l))
		for k := range l {
			l[k] = s.packets(20, sizes, 30)
			if len(l[k]) > 0 && s.below(120) == 0 {
				l[k][len(l[k])-1].At = s.below(3) - 1
			}
			_, want[k], errs[k] = gate.Run(g, l[k])
		}
		err, at := first(errs)
		failed[err]++
		if err != nil {
			runsFail(t, "always", g, l, err, at)
			continue
		}
		well += len(l)
		runs(t, "always", g, l, want)
	}
	if well < 500 || failed[nil] < 50 || failed[api.ErrNone] < 20 || failed[api.ErrOld] < 5 || failed[api.ErrBound] < 2 {
		t.Error(well, failed)
	}
}

// P100, P101: as curve.Delay of each, one behind the other, by however many.
func TestDelaysAlways(t *testing.T) {
	var s source
	well, failed := 0, map[error]int{}
	for i := range 600 {
		per := 1 + s.below([]int{1, 4, api.MaxPer}[i%3])
		l := make([]lines, s.below([]int{4, 20, most + 1}[i/3%3]))
		want, errs := make([]int, len(l)), make([]error, len(l))
		for k := range l {
			l[k] = s.curve(api.MaxLines, []int{9, api.MaxBurst}[k%2], 1000/per+1)
			switch s.below(200) {
			case 0:
				l[k] = nil
			case 1:
				l[k][len(l[k])-1].Burst = 0
			case 2:
				for n := range l[k] {
					l[k][n].Rate += 1000
				}
			}
			want[k], errs[k] = curve.Delay(l[k], per)
		}
		err, at := first(errs)
		failed[err]++
		if err != nil {
			delaysFail(t, "always", l, per, err, at)
			continue
		}
		well += len(l)
		delays(t, "always", l, per, want)
	}
	if well < 2000 || failed[nil] < 200 || failed[api.ErrNone] < 20 || failed[api.ErrShape] < 20 || failed[api.ErrBound] < 20 {
		t.Error(well, failed)
	}
}

// P101: time and again, and while others ask for the same.
func TestAgain(t *testing.T) {
	var s source
	g := by("round", 2, line(20, 100), nil, line(15, 700, 30, 2))
	l, curves := make([]packets, 40), make([]lines, 40)
	for i := range l {
		l[i], curves[i] = s.packets(30, 12, 20), s.curve(api.MaxLines, api.MaxBurst, 100)
	}
	wrong, wrongCurves := slices.Clone(l), slices.Clone(curves)
	wrong[17], wrong[18], wrong[39] = of(0, 1, 1, 0, 1, 0), of(0, 0, 0), of(0, 21, 0)
	wrongCurves[11], wrongCurves[12] = line(0, 0), nil
	sent, e1 := side.Runs(g, l, 1)
	ticks, e2 := side.Delays(curves, 3, 1)
	if len(sent) != 40 || len(ticks) != 40 || e1 != nil || e2 != nil {
		t.Fatal(sent, e1, ticks, e2)
	}
	var all sync.WaitGroup
	for i := range 64 {
		all.Go(func() {
			workers := 1 + i%api.Workers
			if got, err := side.Runs(g, l, workers); !sameLists(got, sent) || err != nil {
				t.Error(workers, got, err)
			}
			if got, err := side.Delays(curves, 3, workers); !slices.Equal(got, ticks) || err != nil {
				t.Error(workers, got, err)
			}
			if got, err := side.Runs(g, wrong, workers); len(got) != 0 || !isFault(err, api.ErrOld, 17) {
				t.Error(workers, got, err)
			}
			if got, err := side.Delays(wrongCurves, 3, workers); len(got) != 0 || !isFault(err, api.ErrBound, 11) {
				t.Error(workers, got, err)
			}
		})
	}
	all.Wait()
}

// P2, P4: what is handed over is only read, also behind its length; what is answered is new, no two lists of it share any memory, and it is the same each time.
func TestMemory(t *testing.T) {
	allPackets := of(0, 3, 5, 0, 1, 6, 9, 9, -9)
	allLines := line(5, 100, 7, 50, -1, -1)
	allNumbers := append(by("rank", 2).Numbers, -7)
	g := by("rank", 2, allLines[:2])
	g.Curves, g.Numbers = append(g.Curves, line(-1, -1))[:api.MaxFlows], allNumbers[:api.MaxFlows]
	l := []packets{allPackets[:2], nil, allPackets[:2], allPackets}
	curves := []lines{allLines[:2], allLines[:1], allLines[:2], allLines}
	packetsBefore, linesBefore, numbersBefore := slices.Clone(allPackets), slices.Clone(allLines), slices.Clone(allNumbers)
	want := []sents{sent(0, 5, 11, 1, 11, 13), nil, sent(0, 5, 11, 1, 11, 13)}
	for workers := 1; workers <= api.Workers; workers++ {
		x, e1 := side.Runs(g, l[:3], workers)
		d, e2 := side.Delays(curves[:3], 2, workers)
		if !sameLists(x, want) || !slices.Equal(d, []int{10, 10, 10}) || e1 != nil || e2 != nil {
			t.Fatal(workers, x, d, e1, e2)
		}
		clear(x[0][:cap(x[0])])
		if !slices.Equal(x[2], want[2]) {
			t.Fatal(workers, x)
		}
		clear(x[2][:cap(x[2])])
		clear(x[:cap(x)])
		clear(d[:cap(d)])
		_, e1 = side.Runs(g, l, workers)
		_, e2 = side.Delays(curves, 2, workers)
		if !isFault(e1, api.ErrBound, 3) || !isFault(e2, api.ErrBound, 3) {
			t.Fatal(workers, e1, e2)
		}
		*e1.(*api.Fault), *e2.(*api.Fault) = api.Fault{}, api.Fault{}
		if !slices.Equal(allPackets, packetsBefore) || !slices.Equal(allLines, linesBefore) || !slices.Equal(allNumbers, numbersBefore) {
			t.Fatal(workers, allPackets, allLines, allNumbers)
		}
		if len(l[0]) != 2 || l[1] != nil || len(l[3]) != 3 || len(curves[1]) != 1 || len(curves[3]) != 3 || len(g.Curves[0]) != 2 {
			t.Fatal(workers, l, curves, g)
		}
	}
}

// P4: an answer does not change with what was handed over; nobody works on when a call has answered (the race detector would tell), also where it answers an error.
func TestAnswersStay(t *testing.T) {
	for workers := 1; workers <= api.Workers; workers++ {
		g := by("fifo", 2, line(9, 9))
		l, curves := []packets{of(0, 3, 5), of(1, 1, 5), of(0, 3, 5)}, []lines{line(5, 100), line(3, 0)}
		x, _ := side.Runs(g, l, workers)
		d, _ := side.Delays(curves, 2, workers)
		side.Runs(g, append(l, of(0, 0, 0), nil, of(0, 0, 0)), workers)
		side.Delays(append([]lines{nil}, curves...), 2, workers)
		for i := range l {
			clear(l[i])
		}
		for i := range curves {
			clear(curves[i])
		}
		clear(g.Curves[0])
		clear(g.Curves)
		clear(l)
		clear(curves)
		side.Runs(by("fifo", 7), []packets{of(0, 9, 9), of(0, 9, 9)}, workers)
		side.Delays([]lines{line(9, 9), line(9, 9)}, 7, workers)
		if !sameLists(x, []sents{sent(0, 5, 11), sent(0, 5, 7), sent(0, 5, 11)}) || !slices.Equal(d, []int{10, 6}) {
			t.Error(workers, x, d)
		}
	}
}

// P1, P3: whatever is handed over, a call ends; an error has nothing beside it.
func TestWild(t *testing.T) {
	var s source
	wild := []int{low, -1 << 59, -2, -1, 0, 1, 2, 3, 5, 8, api.MaxSize, api.MaxPer, api.MaxBurst, api.MaxRate, api.MaxTime, 1 << 59, high}
	some := func(least int) int {
		if s.below(40) == 0 {
			return wild[s.below(len(wild))]
		}
		return least + s.below(4)
	}
	ran, delayed := 0, 0
	for range 4000 {
		g := by(append(kinds, "what")[s.below(6)], some(1))
		if s.below(20) == 0 {
			g.Curves = make([]lines, s.below(12))
		}
		if s.below(20) == 0 {
			g.Numbers = make([]int, s.below(12))
		}
		l, curves := make([]packets, s.below(5)), make([]lines, s.below(5))
		for i := range l {
			l[i] = make(packets, s.below(4))
			for k := range l[i] {
				l[i][k] = api.Packet{Flow: some(0), Size: some(1), At: some(k * 4)}
			}
		}
		for i := range curves {
			curves[i] = make(lines, s.below(4))
			for k := range curves[i] {
				curves[i][k] = api.Line{Burst: some(1), Rate: some(0)}
			}
		}
		workers := some(1)
		x, e1 := side.Runs(g, l, workers)
		d, e2 := side.Delays(curves, some(1), workers)
		if e1 != nil && len(x) != 0 || e2 != nil && len(d) != 0 || e1 == nil && len(x) != len(l) || e2 == nil && len(d) != len(curves) {
			t.Fatal(g, l, curves, workers, x, e1, d, e2)
		}
		if e1 == nil && len(x) > 0 {
			ran++
		}
		if e2 == nil && len(d) > 0 {
			delayed++
		}
	}
	if ran < 300 || delayed < 300 {
		t.Error(ran, delayed)
	}
}
