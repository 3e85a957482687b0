package script_test

import (
	"slices"
	"strconv"
	"strings"
	"testing"

	"floodgate/api"
	"floodgate/script"
)

// Answers of errors.
const (
	text  = "floodgate: text"
	bound = "floodgate: bound"
	shape = "floodgate: shape"
	none  = "floodgate: none"
	old   = "floodgate: old"
)

// kinds of links.
var kinds = []string{"fifo", "rank", "due", "round", "fair"}

// notNumbers are words that tell no number: also those in which there is a blank too many.
var notNumbers = []string{
	"", "00", "01", "000", "007", "0000000", "0000001", "00000001", "00000000",
	"10000000", "12345678", "99999999", "100000000", "9223372036854775808", "18446744073709551617", strings.Repeat("1", 1000),
	"-1", "-0", "+1", "+0", "-", "+", "1-", "1+",
	"x", "1x", "x1", "1x1", "o", "O", "l", "1l", "N", "F", "one", "e", "1e3", "0x1", "0b1", "0o7", "1_0", "1,0", "1.0", "1.", ".1", "1;", "'1'", "/", ":", "1:", "0/",
	" ", " 1", "1 ", "\t1", "1\t", "1\n", "\n1", "1\r", "\x001", "1\x00", "\u00a01", "1\u00a0", "\u0661", "\uff11", "\u00b9", "\xff", "1\xff", "\xb1", "\u0131",
}

// answers of a script that is not too long.
func answers(t *testing.T, lines ...string) []string {
	t.Helper()
	got, err := script.Run(lines)
	if len(got) != len(lines) || err != nil {
		t.Fatal(lines, got, err)
	}
	return got
}

// plays lines and their answers, by turns.
func plays(t *testing.T, name string, turns ...string) {
	t.Helper()
	var lines, want []string
	for i := 0; i < len(turns); i += 2 {
		lines, want = append(lines, turns[i]), append(want, turns[i+1])
	}
	got, err := script.Run(lines)
	if len(got) != len(want) || err != nil {
		t.Fatal(name, got, err)
	}
	for i := range want {
		if got[i] != want[i] {
			t.Errorf("%s: %d %q: %q, not %q", name, i, lines[i], got[i], want[i])
		}
	}
}

// probe: lines that tell all that a script may have changed: packets, curves, Per, the kind, its numbers (where packets wait that it turns).
func probe() []string {
	out := []string{"run", "worst", "bound"}
	for flow := range api.MaxFlows {
		out = append(out, "at "+strconv.Itoa(flow)+" 0", "at "+strconv.Itoa(flow)+" 7777")
	}
	// Then with packets of all flows, that nothing holds back, over the link as it is.
	out = append(out, "clear")
	for flow := range api.MaxFlows {
		out = append(out, "curve "+strconv.Itoa(flow))
	}
	for _, flow := range []string{"7", "6", "5", "4", "3", "2", "1", "0"} {
		out = append(out, "packet "+flow+" 3 0", "packet "+flow+" 2 0")
	}
	return append(out, "run", "worst")
}

// states: scripts that lead to something, each line of which answers ok.
func states() [][]string {
	return [][]string{
		{},
		{"packet 0 10 0", "packet 1 5 3"},
		{"curve 0 10 100", "curve 1 7 50 9 3", "curve 7 1 1", "packet 0 5 0", "packet 0 10 1", "packet 1 3 9"},
		{"link rank 3", "numbers 7 6 5 4 3 2 1 0", "packet 3 9 2", "packet 2 9 2", "packet 1 9 2"},
		{"link due 2", "numbers 9 8 700 6 5 4 3 2", "curve 0 3 0", "packet 0 3 0", "packet 0 1 0"},
		{"link round 5", "numbers 1 2 3 4 5 6 7 8", "packet 1 7 7", "packet 2 7 7", "packet 1 7 7"},
		{"link fair 1", "numbers 1 2 3 4 6 12 1 12", "curve 0 20 1000", "curve 1 30 9", "packet 1 7 7", "packet 5 7 7"},
	}
}

// fails: the line answers this error, whatever was ahead of it, and changes nothing.
func fails(t *testing.T, line, want string) {
	t.Helper()
	for i, state := range states() {
		failsBehind(t, i, state, line, want)
	}
}

func failsBehind(t *testing.T, number int, state []string, line, want string) {
	t.Helper()
	without := answers(t, slices.Concat(state, probe())...)
	with := answers(t, slices.Concat(state, []string{line}, probe())...)
	if got := with[len(state)]; got != want {
		t.Errorf("state %d: %q: %q, not %q", number, line, got, want)
	}
	if !slices.Equal(slices.Delete(with, len(state), len(state)+1), without) {
		t.Errorf("state %d: %q changed something", number, line)
	}
}

// The states are what they are meant to be, and the probe tells each from the others.
func TestStates(t *testing.T) {
	told := map[string]int{}
	for i, state := range states() {
		for k, got := range answers(t, state...) {
			if got != "ok" {
				t.Error(i, state[k], got)
			}
		}
		all := strings.Join(answers(t, slices.Concat(state, probe())...)[len(state):], "\n")
		if before, ok := told[all]; ok {
			t.Error(i, before)
		}
		told[all] = i
	}
}

// P110: how many lines there may be.
func TestLines(t *testing.T) {
	for _, lines := range [][]string{nil, {}, make([]string, 0, 5)} {
		if got, err := script.Run(lines); len(got) != 0 || err != nil {
			t.Error(lines, got, err)
		}
	}
	for _, n := range []int{1, 2, 50, api.MaxText - 1, api.MaxText} {
		for line, want := range map[string]string{"run": "nothing", "": text, "clear": "ok"} {
			got, err := script.Run(slices.Repeat([]string{line}, n))
			if !slices.Equal(got, slices.Repeat([]string{want}, n)) || err != nil {
				t.Error(n, line, got, err)
			}
		}
	}
	for _, n := range []int{api.MaxText + 1, api.MaxText + 2, 1000, 100000} {
		for _, line := range []string{"run", "", "what"} {
			if got, err := script.Run(slices.Repeat([]string{line}, n)); len(got) != 0 || err != api.ErrBound {
				t.Error(n, line, got, err)
			}
		}
	}
}

// P110: as many lines as may be, each of which counts.
func TestManyLines(t *testing.T) {
	var lines []string
	want := slices.Repeat([]string{"ok"}, api.MaxText-1)
	var run []string
	for i := range api.MaxText - 1 {
		lines = append(lines, "packet "+strconv.Itoa(i%api.MaxFlows)+" 2 "+strconv.Itoa(3*i))
		run = append(run, strconv.Itoa(i)+":"+strconv.Itoa(3*i)+"-"+strconv.Itoa(3*i+2))
	}
	if got := answers(t, append(lines, "run")...); !slices.Equal(got, append(want, strings.Join(run, " "))) {
		t.Error(got)
	}
}

// P110: what holds at first.
func TestAtFirst(t *testing.T) {
	plays(t, "nothing", "run", "nothing", "worst", "0", "bound", none)
	for flow := range api.MaxFlows {
		plays(t, "no curve", "at "+strconv.Itoa(flow)+" 0", shape)
	}
	plays(t, "a link in order, 1 tick for a byte", "packet 1 5 0", "ok", "packet 0 3 0", "ok", "run", "0:0-5 1:5-8", "worst", "8")
	plays(t, "in order, so that there are no numbers", "numbers 1 1 1 1 1 1 1 1", shape)
	plays(t, "a bound, once there is a curve", "curve 0 5 100", "ok", "bound", "5")
	// Another script's lines are gone.
	answers(t, "link rank 9", "curve 0 5 5", "packet 0 1 1")
	plays(t, "all over again", "run", "nothing", "worst", "0", "bound", none, "at 0 0", shape, "packet 0 2 0", "ok", "run", "0:0-2")
}

// P110: curves, and what they tell.
func TestCurve(t *testing.T) {
	plays(t, "as the document tells", "curve 0 10 0 4 1000", "ok", "at 0 0", "4", "at 0 3", "7", "at 0 9", "10")
	plays(t, "its bound, in order and else", "curve 0 5 100", "ok", "link fifo 2", "ok", "bound", "10", "link round 2", "ok", "bound", "12")
	plays(t, "Burst is ahead of Rate", "curve 3 7 2", "ok", "at 3 0", "7", "at 3 1000", "9")
	plays(t, "the least and the greatest", "curve 0 1 0", "ok", "at 0 9999999", "1", "curve 0 20000 100000", "ok", "at 0 0", "20000", "at 0 9999999", "1000019900")
	plays(t, "another one in its place", "curve 2 5 1", "ok", "curve 2 6 2", "ok", "at 2 1000", "8")
	plays(t, "an empty one in its place", "curve 2 5 1", "ok", "curve 2", "ok", "at 2 1000", shape, "curve 2", "ok", "curve 2 4 4", "ok", "at 2 0", "4")
	plays(t, "an empty one where there was none", "curve 0", "ok", "at 0 0", shape, "bound", none)
	plays(t, "an empty one ends the bound", "curve 0 5 0", "ok", "curve 1 7 0", "ok", "curve 2 9 0", "ok", "bound", "21", "curve 1", "ok", "bound", "5", "curve 0", "ok", "bound", none)
	for flow := range api.MaxFlows {
		f := strconv.Itoa(flow)
		other := strconv.Itoa((flow + 1) % api.MaxFlows)
		plays(t, "of this flow alone", "curve "+f+" 9 9", "ok", "at "+f+" 0", "9", "at "+other+" 0", shape, "packet "+f+" 9 0", "ok", "packet "+f+" 9 0", "ok", "packet "+other+" 9 0", "ok", "packet "+other+" 9 0", "ok", "run", "0:0-9 1:9-18 2:18-27 3:1000-1009")
	}
}

// P110: as many lines of a curve as may be, and more.
func TestCurveLines(t *testing.T) {
	line := "curve 4"
	for n := range api.MaxLines {
		line += " " + strconv.Itoa(100-n) + " " + strconv.Itoa(n)
		plays(t, "of some lines", line, "ok", "at 4 0", strconv.Itoa(100-n), "at 4 9999999", "100")
		fails(t, line+" 7", text)
		fails(t, line+" 0 7", map[bool]string{true: bound, false: shape}[n+1 < api.MaxLines])
	}
	for range 3 {
		line += " 1 1"
		fails(t, line, shape)
		fails(t, line+" 1", text)
		fails(t, line+" 0 0", shape)
		fails(t, line+" 0 01", text)
	}
	fails(t, "curve 0"+strings.Repeat(" 1 1", 5000), shape)
	fails(t, "curve 0"+strings.Repeat(" 1 1", 5000)+" 1", text)
}

// P110: curve.Check's errors, and lines that are none.
func TestCurveFails(t *testing.T) {
	for _, line := range []string{
		"curve 0 0 0", "curve 0 0 1", "curve 7 20001 0", "curve 7 1 100001", "curve 3 9999999 1", "curve 3 1 9999999", "curve 0 9999999 9999999",
		"curve 0 5 5 0 5", "curve 0 5 5 5 100001", "curve 0 1 1 1 1 1 1 1 1 1 1 0 1", "curve 1 20001 1 0 0",
	} {
		fails(t, line, bound)
	}
	for _, line := range []string{
		"curve", "curve ", "curve 8", "curve 9", "curve 8 1 1", "curve 9 1 1", "curve 9 0 0", "curve 10", "curve 10 1 1", "curve 00", "curve 01 1 1", "curve -1", "curve +1 1 1", "curve x", "curve F", "curve F N N",
		"curve 0 1", "curve 0 1 1 1", "curve 0 0", "curve 9 1", "curve 0 1 1 0", "curve 0 99999 1 1",
		"curve 0 ", "curve 0  ", "curve  0", "curve 0  1 1", "curve 0 1  1", "curve 0 1 1 ", " curve 0 1 1", "  curve 0 1 1", "curve\t0 1 1", "curve 0\t1 1", "curve 0 1 1\n", "curve 0 1 1\r", "curve,0,1,1",
		"Curve 0 1 1", "CURVE 0", "curves 0", "curv 0", "curve0", "curve0 1 1", "curve: 0 1 1", "0 1 1", "curve 0 1:1",
	} {
		fails(t, line, text)
	}
}

// P110: kinds of links, with numbers of 1.
func TestLink(t *testing.T) {
	packets := []string{"packet 0 10 0", "ok", "packet 0 10 0", "ok", "packet 1 10 0", "ok"}
	inOrder, turned := "0:0-10 1:10-20 2:20-30", "0:0-10 2:10-20 1:20-30"
	for _, c := range []struct{ kind, first, numbers, then string }{
		{"rank", inOrder, "1 0 1 1 1 1 1 1", "2:0-10 0:10-20 1:20-30"},
		{"due", inOrder, "9 8 1 1 1 1 1 1", "2:0-10 0:10-20 1:20-30"},
		{"round", turned, "20 1 1 1 1 1 1 1", inOrder},
		{"fair", turned, "2 1 1 1 1 1 1 1", inOrder},
	} {
		link := "link " + c.kind + " 1"
		plays(t, c.kind, append(packets, link, "ok", "run", c.first, "numbers "+c.numbers, "ok", "run", c.then, link, "ok", "run", c.first, "link fifo 1", "ok", "run", inOrder, "worst", "30")...)
		plays(t, c.kind, append([]string{link, "ok", "numbers " + c.numbers, "ok"}, append(packets, "run", c.then)...)...)
	}
	for _, kind := range kinds {
		plays(t, "Per", "packet 0 3 5", "ok", "link "+kind+" 2", "ok", "run", "0:5-11", "worst", "6", "link "+kind+" 1", "ok", "run", "0:5-8", "link "+kind+" 1000", "ok", "run", "0:5-3005", "worst", "3000")
		fails(t, "link "+kind+" 0", bound)
		fails(t, "link "+kind+" 1001", bound)
		fails(t, "link "+kind+" 9999999", bound)
		fails(t, "link "+kind+" 10000000", text)
	}
}

// P110: what is numbered 1 for each flow, of all flows.
func TestFirstNumbers(t *testing.T) {
	for _, kind := range kinds[1:] {
		link := "link " + kind + " 7"
		want := answers(t, append([]string{link, "numbers 1 1 1 1 1 1 1 1"}, probe()...)...)[2:]
		if got := answers(t, append([]string{link}, probe()...)...)[1:]; !slices.Equal(got, want) {
			t.Error(kind, got, want)
		}
	}
	plays(t, "behind numbers of another kind", "link rank 1", "ok", "numbers 0 0 0 0 0 0 0 0", "ok", "link round 1", "ok", "packet 0 1 0", "ok", "run", "0:0-1")
	plays(t, "of no numbers", "link fair 1", "ok", "link fifo 1", "ok", "numbers 1 1 1 1 1 1 1 1", shape, "run", "nothing")
}

// P110: lines that name no kind, or have too many or too few words, are none.
func TestLinkFails(t *testing.T) {
	for _, line := range []string{
		"link", "link ", "link fifo", "link fifo ", "link 1", "link 1 fifo", "link  1", "link  fifo 1", "link fifo  1", "link fifo 1 ", " link fifo 1", "link\tfifo 1", "link fifo\t1", "link fifo 1\n",
		"link what 1", "link what 0", "link what 1001", "link KIND 1", "link Fifo 1", "link FIFO 1", "link fif 1", "link fifo1 1", "link fifos 1", "link 0 1", "link deadlines 1", "link drr 1", "link scfq 1", "link rank\x00 1",
		"link fifo 1 1", "link rank 1 1 1 1 1 1 1 1 1", "link rank fifo 1", "link fifo fifo", "link fifo N", "Link fifo 1", "links fifo 1", "linkfifo 1", "fifo 1",
	} {
		fails(t, line, text)
	}
}

// P110: numbers of links.
func TestNumbers(t *testing.T) {
	for _, c := range []struct{ kind, least, greatest, below, above string }{
		{"rank", "0", "100", "", "101"},
		{"due", "0", "9999999", "", ""},
		{"round", "1", "3000", "0", "3001"},
		{"fair", "1", "12", "0", "13"},
	} {
		for at := range api.MaxFlows {
			numbers := func(n string) string {
				words := slices.Repeat([]string{"1"}, api.MaxFlows)
				words[at] = n
				return "numbers " + strings.Join(words, " ")
			}
			link := "link " + c.kind + " 3"
			plays(t, "the least and the greatest", link, "ok", numbers(c.least), "ok", numbers(c.greatest), "ok", "run", "nothing")
			for _, wrong := range []string{c.below, c.above} {
				if wrong != "" {
					failsBehind(t, at, []string{link, "numbers 2 3 1 1 6 12 4 1"}, numbers(wrong), bound)
				}
			}
		}
	}
	for _, n := range []string{"5", "7", "8", "9", "10", "11", "24", "9999999"} {
		failsBehind(t, 0, []string{"link fair 1", "numbers 2 3 1 1 6 12 4 1"}, "numbers 1 1 1 1 1 1 1 "+n, bound)
	}
	for _, line := range []string{"numbers 1 1 1 1 1 1 1 1", "numbers 0 0 0 0 0 0 0 0", "numbers 9999999 0 0 0 0 0 0 1"} {
		failsBehind(t, 0, states()[0], line, shape)
		failsBehind(t, 1, states()[2], line, shape)
	}
	plays(t, "each is its flow's", "link rank 1", "ok", "numbers 7 6 5 4 3 2 1 0", "ok", "packet 0 1 0", "ok", "packet 3 1 0", "ok", "packet 7 1 0", "ok", "run", "2:0-1 1:1-2 0:2-3")
	plays(t, "as the document tells", "link round 1", "ok", "numbers 10 10 10 10 10 10 10 10", "ok", "packet 0 10 0", "ok", "packet 0 10 0", "ok", "packet 1 10 0", "ok", "run", "0:0-10 2:10-20 1:20-30")
}

// P110: not all MaxFlows of them.
func TestNumbersFails(t *testing.T) {
	for n := range 2 * api.MaxFlows {
		if n != api.MaxFlows {
			fails(t, "numbers"+strings.Repeat(" 1", n), text)
			fails(t, "numbers"+strings.Repeat(" 0", n), text)
		}
	}
	for _, line := range []string{
		"numbers ", "numbers  1 1 1 1 1 1 1", "numbers  1 1 1 1 1 1 1 1", "numbers 1 1 1 1 1 1 1 ", "numbers 1 1 1 1 1 1 1 1 ", "numbers 1 1 1 1  1 1 1 1", " numbers 1 1 1 1 1 1 1 1", "numbers 1 1 1 1 1 1 1 1\n", "numbers\t1 1 1 1 1 1 1 1",
		"number 1 1 1 1 1 1 1 1", "Numbers 1 1 1 1 1 1 1 1", "numbers1 1 1 1 1 1 1 1", "numbers 11111111", "numbers 1,1,1,1,1,1,1,1", "1 1 1 1 1 1 1 1", "numbers N N N N N N N N", "numbers 10000000 0 0 0 0 0 0 0",
	} {
		fails(t, line, text)
	}
}

// P110: packets.
func TestPacket(t *testing.T) {
	plays(t, "Size is ahead of At", "packet 0 3 5", "ok", "run", "0:5-8")
	plays(t, "as the document tells", "link fifo 2", "ok", "packet 0 3 5", "ok", "run", "0:5-11", "worst", "6")
	plays(t, "the least and the greatest", "packet 0 1 0", "ok", "packet 7 1500 9999999", "ok", "run", "0:0-1 1:9999999-10001499")
	plays(t, "of one tick, and of later ones", "packet 1 1 4", "ok", "packet 2 1 4", "ok", "packet 0 1 5", "ok", "packet 0 1 4", old, "packet 0 1 5", "ok", "packet 0 1 6", "ok", "run", "0:4-5 1:5-6 2:6-7 3:7-8 4:8-9")
	plays(t, "wrong ones are not there", "packet 0 1 5", "ok", "packet 0 0 6", bound, "packet 0 1501 9", bound, "packet 8 1 9", bound, "packet 0 1 4", old, "packet 0 1 5", "ok", "run", "0:5-6 1:6-7")
	plays(t, "a wrong one alone", "packet 9 1 0", bound, "run", "nothing", "worst", "0", "packet 0 0 7", bound, "packet 0 1 0", "ok", "run", "0:0-1")
	plays(t, "what is wrong with a packet by itself comes first", "packet 0 1 5", "ok", "packet 8 1 4", bound, "packet 0 0 4", bound, "packet 0 1501 0", bound)
	for _, line := range []string{
		"packet 8 1 9999999", "packet 9 1 9999999", "packet 9 1 0", "packet 0 0 9999999", "packet 7 1501 9999999", "packet 0 9999999 9999999", "packet 9 0 0",
	} {
		fails(t, line, bound)
	}
	for i, state := range states() {
		failsBehind(t, i, append(state, "packet 6 7 100"), "packet 0 1 99", old)
		failsBehind(t, i, append(state, "packet 6 7 100"), "packet 7 1500 0", old)
	}
}

// P110: lines of packets that are none.
func TestPacketFails(t *testing.T) {
	for _, line := range []string{
		"packet", "packet ", "packet 0", "packet 0 1", "packet 0 1 ", "packet 0 1 9999999 1", "packet 0 1 9999999 ", "packet  0 1 9999999", "packet 0  1 9999999", "packet 0 1  9999999", " packet 0 1 9999999", "packet\t0 1 9999999", "packet 0 1\t9999999", "packet 0 1 9999999\n",
		"packet 10 1 9999999", "packet 00 1 9999999", "packet 01 1 9999999", "packet -1 1 9999999", "packet +1 1 9999999", "packet x 1 9999999", "packet F N N", "packet 0 1 10000000", "packet 0 10000000 9999999", "packet 9 1 10000000", "packet 9 1",
		"Packet 0 1 9999999", "packets 0 1 9999999", "packet0 1 9999999", "packet 0,1,9999999",
	} {
		fails(t, line, text)
	}
}

// P110: no packets again.
func TestClear(t *testing.T) {
	plays(t, "of nothing", "clear", "ok", "run", "nothing", "clear", "ok", "clear", "ok")
	plays(t, "packets alone", "curve 0 5 100", "ok", "link round 2", "ok", "numbers 9 9 9 9 9 9 9 9", "ok", "packet 0 5 50", "ok", "clear", "ok", "run", "nothing", "worst", "0", "bound", "12", "at 0 10", "6", "packet 0 5 0", "ok", "packet 1 1 0", "ok", "run", "0:0-10 1:10-12")
	plays(t, "ticks begin anew", "packet 0 1 50", "ok", "packet 0 1 49", old, "clear", "ok", "packet 0 1 49", "ok", "run", "0:49-50")
	plays(t, "what never leaves is gone", "curve 0 5 0", "ok", "packet 0 6 0", "ok", "run", none, "worst", none, "clear", "ok", "run", "nothing", "worst", "0", "packet 0 5 0", "ok", "run", "0:0-5")
	plays(t, "time and again", "packet 0 1 0", "ok", "clear", "ok", "packet 0 2 0", "ok", "packet 0 3 0", "ok", "clear", "ok", "packet 0 4 0", "ok", "run", "0:0-4")
}

// P110: what is sent, by its number at the link, and the greatest delay there.
func TestRunAndWorst(t *testing.T) {
	plays(t, "one", "packet 5 7 3", "ok", "run", "0:3-10", "worst", "7")
	plays(t, "many", "packet 5 7 3", "ok", "packet 5 1 4", "ok", "packet 0 2 50", "ok", "run", "0:3-10 1:10-11 2:50-52", "worst", "7")
	plays(t, "the greatest is the last", "packet 0 7 3", "ok", "packet 0 2 4", "ok", "run", "0:3-10 1:10-12", "worst", "8")
	plays(t, "the greatest is between others", "packet 0 1 0", "ok", "packet 0 7 3", "ok", "packet 0 2 4", "ok", "packet 0 1 50", "ok", "worst", "8")
	plays(t, "a run changes nothing", "packet 0 1 0", "ok", "run", "0:0-1", "run", "0:0-1", "worst", "1", "worst", "1", "packet 0 1 0", "ok", "run", "0:0-1 1:1-2")
	plays(t, "through shapers", "curve 0 5 100", "ok", "curve 1 3 200", "ok", "link fifo 2", "ok", "packet 0 5 1", "ok", "packet 0 1 2", "ok", "packet 1 3 3", "ok", "run", "0:1-11 1:11-17 2:17-19", "worst", "14", "bound", "16")
	plays(t, "delays of shapers are none of the link", "curve 0 5 1", "ok", "packet 0 5 0", "ok", "packet 0 5 0", "ok", "run", "0:0-5 1:5000-5005", "worst", "5", "bound", "5")
	plays(t, "one never leaves", "curve 1 5 0", "ok", "packet 0 1 0", "ok", "packet 1 5 0", "ok", "run", "0:0-1 1:1-6", "worst", "6", "packet 1 1 0", "ok", "run", none, "worst", none, "bound", none, "curve 1", "ok", "run", "0:0-1 1:1-6 2:6-7", "worst", "7")
	plays(t, "one is too great for its curve", "curve 3 5 100000", "ok", "packet 3 6 0", "ok", "run", none, "worst", none)
}

// P110: the bound.
func TestBound(t *testing.T) {
	plays(t, "of none", "bound", none, "packet 0 1 0", "ok", "bound", none)
	plays(t, "not of flow 0", "curve 1 5 0", "ok", "bound", none, "curve 0 3 0", "ok", "bound", "8")
	plays(t, "of one", "curve 0 1 0", "ok", "bound", "1", "link fair 1000", "ok", "bound", "1000")
	plays(t, "of two", "curve 0 5 100", "ok", "curve 1 3 200", "ok", "link fifo 2", "ok", "bound", "16", "link due 2", "ok", "bound", "36")
	plays(t, "more than the link sends", "curve 0 1 1000", "ok", "bound", "1", "link fifo 2", "ok", "bound", none, "link rank 1", "ok", "bound", none, "curve 0 1 999", "ok", "bound", "1")
	plays(t, "more than a curve may have", "curve 0 20000 0", "ok", "bound", "20000", "curve 1 1 0", "ok", "bound", none)
	turns := []string{}
	for flow := range api.MaxFlows {
		turns = append(turns, "curve "+strconv.Itoa(flow)+" "+strconv.Itoa(1<<flow)+" 0", "ok", "bound", strconv.Itoa(2<<flow-1))
	}
	plays(t, "of all", turns...)
}

// P110: curves at a tick.
func TestAt(t *testing.T) {
	plays(t, "ordinary ones", "curve 0 10 100", "ok", "at 0 0", "10", "at 0 9", "10", "at 0 10", "11", "at 0 25", "12", "at 0 1000", "110", "at 0 9999999", "1000009")
	for i, state := range states() {
		for _, flow := range []string{"3", "4", "5", "6"} { // which have no curve in any of them
			failsBehind(t, i, state, "at "+flow+" 0", shape)
			failsBehind(t, i, state, "at "+flow+" 9999999", shape)
		}
	}
	for _, line := range []string{
		"at", "at ", "at 0", "at 0 ", "at 0 1 ", "at 0 1 1", "at  0 1", "at 0  1", " at 0 1", "at\t0 1", "at 0\t1", "at 0 1\n", "at 8 1", "at 9 1", "at 8", "at 10 1", "at 00 1", "at 01 1", "at -1 1", "at +0 1", "at x 1", "at F N", "at 0 x", "at 0 10000000", "at 0 1099511627777", "At 0 1", "at0 1", "att 0 1",
	} {
		fails(t, line, text)
	}
}

// P110: commands that have nothing behind their names.
func TestAlone(t *testing.T) {
	for _, name := range []string{"run", "clear", "bound", "worst"} {
		for _, line := range []string{name + " ", " " + name, name + "  ", name + " 1", name + " 0", name + " x", name + " " + name, name + "\n", name + "\t", "\t" + name, name + "\r", name + "\x00", name + ".", name + "1", name + "s", name[1:], name[:len(name)-1], strings.ToUpper(name), strings.ToUpper(name[:1]) + name[1:], name + ";" + name, name + "\nrun"} {
			fails(t, line, text)
		}
	}
}

// P111: lines that are none.
func TestNoLine(t *testing.T) {
	for _, line := range []string{"", " ", "  ", "\t", "\n", "what", "what 1", "ok", "nothing", "0", "1", "#", "# run", "//", "help", "text", "-", "\x00", "\xff", "rün", "fifo", "due 1", strings.Repeat(" ", 1000), strings.Repeat("x", 100000), strings.Repeat("1 ", 100000)} {
		fails(t, line, text)
	}
}

// P110: what is no number is none, wherever it stands.
func TestNotNumbers(t *testing.T) {
	for _, line := range []string{"curve 0 N 1", "curve 0 1 N", "curve 0 1 1 N 1", "curve 0 1 1 1 N", "link fifo N", "link fair N", "numbers N 1 1 1 1 1 1 1", "numbers 1 1 1 1 N 1 1 1", "numbers 1 1 1 1 1 1 1 N", "packet 0 N 9999999", "packet 0 1 N", "at 0 N", "curve N 1 1", "curve N", "packet N 1 9999999", "at N 1"} {
		for _, word := range notNumbers {
			fails(t, strings.ReplaceAll(line, "N", word), text)
		}
	}
}

// P110: what is a number is one: of one digit up to seven, each of which counts.
func TestAreNumbers(t *testing.T) {
	for _, n := range []int{0, 1, 2, 3, 4, 5, 6, 7, 8, 9, 10, 11, 90, 99, 100, 101, 1000, 12345, 67890, 99999, 100000, 999999, 1000000, 1234567, 7654321, 9999998, 9999999} {
		word := strconv.Itoa(n)
		plays(t, word, "curve 0 1 1000", "ok", "at 0 "+word, strconv.Itoa(1+n), "packet 0 1 "+word, "ok", "run", "0:"+word+"-"+strconv.Itoa(n+1))
		want := bound
		if n >= 1 && n <= api.MaxBurst {
			want = "ok"
		}
		plays(t, word, "curve 0 "+word+" 0", want)
		want = bound
		if n <= api.MaxRate {
			want = "ok"
		}
		plays(t, word, "curve 0 1 "+word, want)
		want = bound
		if n >= 1 && n <= api.MaxSize {
			want = "ok"
		}
		plays(t, word, "packet 0 "+word+" 0", want)
		want = bound
		if n >= 1 && n <= api.MaxPer {
			want = "ok"
		}
		plays(t, word, "link fifo "+word, want)
	}
}
