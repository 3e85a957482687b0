package script_test

import (
	"errors"
	"fmt"
	"regexp"
	"slices"
	"strconv"
	"strings"
	"sync"
	"testing"

	"floodgate/api"
	"floodgate/bucket"
	"floodgate/curve"
	"floodgate/gate"
	"floodgate/script"
)

// source of numbers that look like none in order, the same ones in each run.
type source uint32

func (s *source) below(n int) int {
	*s = *s*1664525 + 1013904223
	return int(*s>>8) % n
}

func (s *source) among(words ...string) string { return words[s.below(len(words))] }

// Lines, by the document's words: N is (0|[1-9][0-9]{0,6}), F is [0-9], a flow [0-7].
var (
	curveLine   = regexp.MustCompile(`\Acurve ([0-7])((?: (?:0|[1-9][0-9]{0,6}) (?:0|[1-9][0-9]{0,6}))*)\z`)
	linkLine    = regexp.MustCompile(`\Alink (fifo|rank|due|round|fair) (0|[1-9][0-9]{0,6})\z`)
	numbersLine = regexp.MustCompile(`\Anumbers((?: (?:0|[1-9][0-9]{0,6})){8})\z`)
	packetLine  = regexp.MustCompile(`\Apacket ([0-9]) (0|[1-9][0-9]{0,6}) (0|[1-9][0-9]{0,6})\z`)
	atLine      = regexp.MustCompile(`\Aat ([0-7]) (0|[1-9][0-9]{0,6})\z`)
)

// model of a script: all is made anew with each line.
type model struct {
	curves  [api.MaxFlows][]api.Line
	kind    string
	per     int
	numbers []int
	packets []api.Packet
}

func (m model) gate() gate.Gate {
	return gate.Gate{Curves: m.curves[:], Kind: m.kind, Per: m.per, Numbers: m.numbers}
}

func numbersIn(text string) []int {
	var out []int
	for _, word := range strings.Fields(text) {
		n, err := strconv.Atoi(word)
		if err != nil {
			panic(err)
		}
		out = append(out, n)
	}
	return out
}

// then: the model behind a line that sets something, and the error that there is; or that the line is none of these.
func (m model) then(line string) (model, error, bool) {
	if x := curveLine.FindStringSubmatch(line); x != nil {
		var l []api.Line
		for pair := range slices.Chunk(numbersIn(x[2]), 2) {
			l = append(l, api.Line{Burst: pair[0], Rate: pair[1]})
		}
		m.curves[x[1][0]-'0'] = l
		if l == nil {
			return m, nil, true
		}
		return m, curve.Check(l), true
	}
	if x := linkLine.FindStringSubmatch(line); x != nil {
		m.kind, m.per, m.numbers = x[1], numbersIn(x[2])[0], []int{1, 1, 1, 1, 1, 1, 1, 1}
		if m.kind == "fifo" {
			m.numbers = nil
		}
		return m, gate.Check(m.gate()), true
	}
	if x := numbersLine.FindStringSubmatch(line); x != nil {
		m.numbers = numbersIn(x[1])
		return m, gate.Check(m.gate()), true
	}
	if x := packetLine.FindStringSubmatch(line); x != nil {
		n := numbersIn(strings.Join(x[1:], " "))
		m.packets = append(slices.Clone(m.packets), api.Packet{Flow: n[0], Size: n[1], At: n[2]})
		return m, bucket.Check(m.packets), true
	}
	m.packets = nil
	return m, nil, line == "clear"
}

// tells what is asked for by a line that sets nothing.
func (m model) tells(line string) (string, error) {
	if x := atLine.FindStringSubmatch(line); x != nil {
		n := numbersIn(x[1] + " " + x[2])
		told, err := curve.At(m.curves[n[0]], n[1])
		return fmt.Sprint(told), err
	}
	switch line {
	case "bound":
		told, err := gate.Bound(m.gate())
		return fmt.Sprint(told), err
	case "run", "worst":
		q, l, err := gate.Run(m.gate(), m.packets)
		sent, worst := "", 0
		for _, x := range l {
			sent += fmt.Sprintf(" %d:%d-%d", x.Packet, x.From, x.To)
			worst = max(worst, x.To-q[x.Packet].At)
		}
		switch {
		case line == "worst":
			return fmt.Sprint(worst), err
		case sent == "":
			return "nothing", err
		}
		return sent[1:], err
	}
	return "", api.ErrText
}

// textOf an error, its place aside.
func textOf(err error) string {
	if f := (*api.Fault)(nil); errors.As(err, &f) {
		err = f.Err
	}
	return err.Error()
}

// modelled answers.
func modelled(lines []string) []string {
	m := model{kind: "fifo", per: 1}
	var out []string
	for _, line := range lines {
		next, err, set := m.then(line)
		told := "ok"
		if !set {
			told, err = m.tells(line)
		} else if err == nil {
			m = next
		}
		if err != nil {
			told = textOf(err)
		}
		out = append(out, told)
	}
	return out
}

// number that is mostly small, and now and then one of an edge, or none.
func (s *source) number(below int) string {
	switch s.below(60) {
	case 0:
		return s.among("0", "1", "7", "8", "9", "12", "13", "100", "101", "1000", "1001", "1500", "1501", "3000", "3001", "20000", "20001", "100000", "100001", "1000000", "9999999")
	case 1:
		return s.among(notNumbers...)
	}
	return strconv.Itoa(1 + s.below(below))
}

func (s *source) numbers(n, below int) string {
	out := ""
	for range n {
		out += " " + s.number(below)
	}
	return out
}

func (s *source) flow() string {
	if s.below(40) == 0 {
		return s.among("7", "8", "9", "10", "00", "-1", "x", "")
	}
	return strconv.Itoa(s.below(3))
}

// line that is mostly a command. Ticks of packets rise with the line's number, mostly.
func (s *source) line(number int) string {
	switch s.below(16) {
	case 0, 1:
		return "curve " + s.flow() + s.numbers(2*(1+s.below(3)), 900)
	case 2:
		return "curve " + s.flow() + s.numbers(s.below(2+s.below(30)), 900)
	case 3:
		return "link " + s.among("fifo", "rank", "due", "round", "fair") + s.numbers(1, 4)
	case 4:
		return "link " + s.among("fifo", "rank", "due", "round", "fair", "what", "") + s.numbers(s.below(3), 4)
	case 5:
		return "numbers" + s.numbers(8, 4)
	case 6:
		return "numbers" + s.numbers(6+s.below(4), 4)
	case 7, 8, 9, 10:
		return "packet " + s.flow() + s.numbers(1, 40) + " " + strconv.Itoa(max(0, 7*number-s.below(12)))
	case 11:
		return "packet " + s.flow() + s.numbers(1+s.below(3), 40)
	case 12:
		return "at " + s.flow() + s.numbers(1, 3000)
	case 13:
		return s.among("clear", "", "what", "bound", "bound", "bound")
	}
	return s.among("run", "run", "worst", "bound")
}

// broken line: a byte more, a byte less, or another one.
func (s *source) broken(line string) string {
	at := s.below(len(line) + 1)
	switch c := s.among(" ", "0", "1", "-", "x", "\t", "9"); s.below(3) {
	case 0:
		return line[:at] + c + line[at:]
	case 1:
		return line[:max(0, at-1)] + line[at:]
	default:
		return line[:max(0, at-1)] + c + line[at:]
	}
}

func (s *source) script() []string {
	lines := make([]string, s.below(api.MaxText+1))
	for i := range lines {
		lines[i] = s.line(i)
		if s.below(25) == 0 {
			lines[i] = s.broken(lines[i])
		}
	}
	return lines
}

// P110, P111: as by their words, of any lines.
func TestAlways(t *testing.T) {
	var s source
	told := map[string]int{}
	for range 2000 {
		lines := s.script()
		want := modelled(lines)
		got, err := script.Run(lines)
		if len(got) != len(want) || err != nil {
			t.Fatal(lines, got, err)
		}
		for i := range want {
			if got[i] != want[i] {
				t.Fatalf("%q: %d %q: %q, not %q", lines[:i], i, lines[i], got[i], want[i])
			}
			name, _, _ := strings.Cut(lines[i], " ")
			switch answer := want[i]; {
			case strings.Contains(answer, " ") && strings.Contains(answer, "-"):
				told[name+" tells many"]++
			case answer == "ok" || strings.HasPrefix(answer, "floodgate"):
				told[name+" "+answer]++
			default:
				told[name+" tells"]++
			}
		}
	}
	for _, what := range []string{
		"curve ok", "curve " + text, "curve " + bound, "curve " + shape,
		"link ok", "link " + text, "link " + bound,
		"numbers ok", "numbers " + text, "numbers " + bound, "numbers " + shape,
		"packet ok", "packet " + text, "packet " + bound, "packet " + old,
		"clear ok", "run tells many", "run tells", "run " + none, "worst tells", "worst " + none, "bound tells", "bound " + none,
		"at tells", "at " + text, "at " + shape, " " + text, "what " + text,
	} {
		if told[what] < 50 {
			t.Error(what, told[what])
		}
	}
}

// P83, as a script tells it: where all packets are of flows with curves, the worst is at most the bound.
func TestNeverWorse(t *testing.T) {
	var s source
	bounded := 0
	for i := range 500 {
		lines := []string{"link " + kinds[i%len(kinds)] + " " + strconv.Itoa(1+s.below(3)), "curve 0 40 " + strconv.Itoa(s.below(150)), "curve 1 50 " + strconv.Itoa(s.below(150))}
		at := 0
		for range 1 + s.below(20) {
			at += s.below(30)
			lines = append(lines, fmt.Sprint("packet ", s.below(2), " ", 1+s.below(40), " ", at))
		}
		got := answers(t, append(lines, "worst", "bound")...)
		worst, e1 := strconv.Atoi(got[len(got)-2])
		most, e2 := strconv.Atoi(got[len(got)-1])
		if e1 != nil || e2 != nil {
			continue // one never leaves
		}
		bounded++
		if worst < 1 || worst > most {
			t.Error(lines, worst, most)
		}
	}
	if bounded < 400 {
		t.Error(bounded)
	}
}

// P112: the same lines make the same answers: time and again, and while others ask for them and for other ones; of more lines, the first ones' answers are the same.
func TestSameAgain(t *testing.T) {
	var s source
	scripts, want := make([][]string, 30), make([][]string, 30)
	for i := range scripts {
		scripts[i] = s.script()
		want[i], _ = script.Run(scripts[i])
	}
	var all sync.WaitGroup
	for i := range 8 * len(scripts) {
		all.Go(func() {
			lines, want := scripts[i%len(scripts)], want[i%len(scripts)]
			for range 3 {
				if got, err := script.Run(lines); !slices.Equal(got, want) || err != nil {
					t.Error(lines, got, want, err)
				}
			}
			for n := range len(lines) {
				if got, err := script.Run(lines[:n]); !slices.Equal(got, want[:n]) || err != nil {
					t.Error(lines[:n], got, want[:n], err)
				}
			}
		})
	}
	all.Wait()
}

// P3, P4: what is handed over is only read, and not behind its length; what is answered is new.
func TestMemory(t *testing.T) {
	all := append(slices.Concat(states()[2], []string{"run", "what", "at 0 7"}), "packet 0 1 99", "clear")
	lines, before := all[:len(all)-2], slices.Clone(all)
	want := []string{"ok", "ok", "ok", "ok", "ok", "ok", "0:0-5 1:9-12 2:50-60", text, "10"}
	for range 3 {
		got, err := script.Run(lines)
		if !slices.Equal(got, want) || err != nil {
			t.Fatal(got, err)
		}
		more := got[:cap(got)]
		for i := range more {
			more[i] = "written over"
		}
		if !slices.Equal(all, before) {
			t.Fatal(all)
		}
	}
	got, _ := script.Run(lines)
	clear(all)
	if !slices.Equal(got, want) {
		t.Error(got)
	}
}

// P1, P3: whatever lines there are, a call ends, with an answer to each, which is one of those that there are.
func TestWild(t *testing.T) {
	var s source
	is := regexp.MustCompile(`\A(ok|nothing|0|[1-9][0-9]*|\d+:\d+-\d+( \d+:\d+-\d+)*|floodgate: (text|bound|shape|none|old))\z`)
	pieces := append([]string{"curve", "link", "numbers", "packet", "clear", "run", "bound", "worst", "at", " ", " ", " ", " ", " 0", " 1", " 1 1", "\x00", "\n"}, append(notNumbers, kinds...)...)
	for range 5000 {
		lines := make([]string, s.below(api.MaxText+5))
		for i := range lines {
			for range s.below(6) {
				lines[i] += s.among(pieces...)
			}
		}
		got, err := script.Run(lines)
		if len(lines) > api.MaxText {
			if len(got) != 0 || err != api.ErrBound {
				t.Fatal(len(lines), got, err)
			}
			continue
		}
		if !slices.Equal(got, modelled(lines)) || err != nil {
			t.Fatalf("%q: %q %v", lines, got, err)
		}
		for i, answer := range got {
			if !is.MatchString(answer) {
				t.Fatalf("%q: %q", lines[i], answer)
			}
		}
	}
}
