package bucket_test

import (
	"slices"
	"testing"

	"floodgate/api"
	"floodgate/bucket"
)

// source of numbers that look like none in order, the same ones in each run.
type source uint32

func (s *source) below(n int) int {
	*s = *s*1664525 + 1013904223
	return int(*s>>8) % n
}

func (s *source) lines(most, bursts, rates int) lines {
	l := make(lines, 1+s.below(most))
	for i := range l {
		l[i] = api.Line{Burst: 1 + s.below(bursts), Rate: s.below(rates + 1)}
	}
	return l
}

func (s *source) packets(most, sizes, gaps int) packets {
	p := make(packets, s.below(most+1))
	at := s.below(gaps)
	for i := range p {
		p[i] = api.Packet{Flow: s.below(api.MaxFlows), Size: 1 + s.below(sizes), At: at}
		at += max(0, s.below(2*gaps)-gaps)
	}
	return p
}

// pail is a bucket by the document's words: it gets what it gets at each tick.
type pail struct {
	api.Line
	has, tick int
}

func (b *pail) goTo(tick int) {
	for ; b.tick < tick; b.tick++ {
		b.has = min(b.has+b.Rate, b.Burst*1000)
	}
}

func (b pail) hasAt(tick int) int {
	b.goTo(tick)
	return b.has
}

func pails(l lines) []pail {
	var out []pail
	for _, x := range l {
		out = append(out, pail{Line: x, has: x.Burst * 1000})
	}
	return out
}

// never is no tick.
const never = -1

// whenAll is the first tick, from at on, at which all have n bytes, or never: they have not, and will have no more.
func whenAll(l []pail, at, n int) int {
	l = slices.Clone(l)
	for ; ; at++ {
		enough, rest := true, true
		for i := range l {
			l[i].goTo(at)
			enough = enough && l[i].has >= n*1000
			rest = rest && l[i].hasAt(at+1) == l[i].has
		}
		if enough {
			return at
		}
		if rest {
			return never
		}
	}
}

// P21: as by its words, also with calls that take nothing or are wrong in between.
func TestBucketAlways(t *testing.T) {
	var s source
	took, none := 0, 0
	for i := range 400 {
		x := s.lines(1, 12, []int{3, 300, 20000}[i%3])[0]
		b, want := made(t, x.Burst, x.Rate), pails(lines{x})[0]
		for at := 0; at < 200; at += s.below(12) {
			n := 1 + s.below(13)
			_, old := b.Take(want.tick-1, n)
			has, e1 := b.Has(at)
			when, e2 := b.When(at, n)
			is, e3 := b.Take(at, n)
			if has != want.hasAt(at) || is != (has >= n*1000) || old == nil || e1 != nil || e3 != nil {
				t.Fatal(x, at, n, has, is, old, e1, e3)
			}
			first := whenAll([]pail{want}, at, n)
			if first != never && (when != first || e2 != nil) || first == never && (when != 0 || e2 != api.ErrNone) {
				t.Fatal(x, at, n, when, first, e2)
			}
			want.goTo(at)
			if is {
				want.has -= n * 1000
				took++
			}
			if e2 != nil {
				none++
			}
		}
	}
	if took < 1000 || none < 1000 {
		t.Error(took, none)
	}
}

// shaped by the document's words; the number of the first that never leaves, or -1.
func shaped(l lines, p packets) (packets, int) {
	buckets, out, left := pails(l), slices.Clone(p), 0
	for i := range out {
		x := &out[i]
		x.At = whenAll(buckets, max(x.At, left), x.Size)
		if x.At == never {
			return nil, i
		}
		for k := range buckets {
			buckets[k].goTo(x.At)
			buckets[k].has -= x.Size * 1000
		}
		left = x.At
	}
	return out, -1
}

// fits by the document's words.
func fits(l lines, p packets) bool {
	for i := range p {
		sum := 0
		for k := i; k < len(p); k++ {
			sum += p[k].Size
			for _, x := range l {
				if sum > x.Burst+x.Rate*(p[k].At-p[i].At)/1000 {
					return false
				}
			}
		}
	}
	return true
}

// P22, and P23: what leaves a shaper fits its curve; what fits leaves at once.
func TestShapeAlways(t *testing.T) {
	var s source
	none, now, later := 0, 0, 0
	for i := range 1500 {
		l := s.lines(api.MaxLines, 20, []int{30, 900, 3000}[i%3])
		p := s.packets(8, []int{3, 9}[i%2], []int{3, 30, 500}[i/2%3])
		is, e1 := bucket.Fits(l, p)
		if is != fits(l, p) || e1 != nil {
			t.Fatal(l, p, is, e1)
		}
		x, e2 := bucket.Shape(l, p)
		want, at := shaped(l, p)
		if !slices.Equal(x, want) || at < 0 && e2 != nil || at >= 0 && !isFault(e2, api.ErrNone, at) {
			t.Fatal(l, p, x, want, e2)
		}
		if is != (e2 == nil && slices.Equal(x, p)) {
			t.Fatal(l, p, x, is)
		}
		if e2 != nil {
			none++
			continue
		}
		if is, err := bucket.Fits(l, x); !is || err != nil {
			t.Fatal(l, p, x, is, err)
		}
		if is {
			now++
		} else {
			later++
		}
	}
	if none < 100 || now < 100 || later < 100 {
		t.Error(none, now, later)
	}
}

// P23, of packets as many, as great and as far as may be.
func TestGreatAlways(t *testing.T) {
	var s source
	later := 0
	for i := range 96 {
		l := s.lines(api.MaxLines, api.MaxBurst-api.MaxSize, api.MaxRate)
		for k := range l {
			l[k].Burst += api.MaxSize
			l[k].Rate = max(1, l[k].Rate>>(i%17))
		}
		p := s.packets(api.MaxPackets, api.MaxSize>>(i%3*3), 1+1<<(i%32))
		x, e1 := bucket.Shape(l, p)
		is, e2 := bucket.Fits(l, x)
		now, e3 := bucket.Fits(l, p)
		y, e4 := bucket.Shape(l, x)
		if !is || now != slices.Equal(x, p) || !slices.Equal(x, y) || e1 != nil || e2 != nil || e3 != nil || e4 != nil {
			t.Fatal(l, p, x, is, now, e1, e2, e3, e4)
		}
		if !now {
			later++
		}
	}
	if later < 20 || later > 76 {
		t.Error(later)
	}
}

// P23: what a bucket passes is what fits its line.
func TestPassAlways(t *testing.T) {
	var s source
	all, some := 0, 0
	for i := range 3000 {
		l := s.lines(1, 20, []int{30, 900, 3000}[i%3])
		p := s.packets(12, []int{3, 9}[i%2], []int{3, 30, 500}[i/2%3])
		b := made(t, l[0].Burst, l[0].Rate)
		passed := packets{}
		for _, x := range p {
			before := slices.Clone(passed)
			with := append(before, x)
			is, err := b.Take(x.At, x.Size)
			if is != fits(l, with) || err != nil {
				t.Fatal(l, p, x, is, err)
			}
			if is {
				passed = with
			}
		}
		if is, err := bucket.Fits(l, passed); !is || err != nil {
			t.Fatal(l, p, passed, is, err)
		}
		if is, err := bucket.Fits(l, p); is != (len(passed) == len(p)) || err != nil {
			t.Fatal(l, p, passed, is, err)
		}
		if len(passed) == len(p) {
			all++
		} else {
			some++
		}
	}
	if all < 300 || some < 300 {
		t.Error(all, some)
	}
}
