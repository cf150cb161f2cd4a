package tests

import (
	"fmt"
	"math"
	"slices"
	"strconv"
	"strings"
	"testing"

	"loop.example/ltlcheck/impl"
)

// graphFrom reads a graph of which each state has a letter and then its
// successors; between the states there are bars. With plainLabels it is labelled
// as it says.
func graphFrom(text string) impl.Graph {
	var g impl.Graph
	for _, list := range listsOf(text) {
		letter := list[0]
		g.States = append(g.States, stateOf([]int{0}, letter&1, letter>>1&1, letter>>2&1))
		g.Next = append(g.Next, list[1:])
	}
	return g
}

// traceFrom reads a trace from the states of its stem and, in parentheses, those
// of its loop.
func traceFrom(text string) impl.Trace {
	stem, loop, _ := strings.Cut(strings.TrimSuffix(text, ")"), "(")
	return impl.Trace{Stem: listsOf(stem)[0], Loop: listsOf(loop)[0]}
}

func traceText(t impl.Trace) string {
	var text strings.Builder
	for _, state := range t.Stem {
		text.WriteString(strconv.Itoa(state) + " ")
	}
	return text.String() + "(" + strings.Trim(fmt.Sprint(t.Loop), "[]") + ")"
}

func equalTraces(a, b impl.Trace) bool {
	return slices.Equal(a.Stem, b.Stem) && slices.Equal(a.Loop, b.Loop)
}

func isZeroTrace(t impl.Trace) bool { return len(t.Stem) == 0 && len(t.Loop) == 0 }

// isTrace is the test's own definition of a trace of a valid graph.
func isTrace(g impl.Graph, t impl.Trace) bool {
	if len(t.Loop) == 0 || len(t.Stem)+len(t.Loop) > 8000 {
		return false
	}
	states := append(slices.Clone(t.Stem), t.Loop...)
	if states[0] != 0 {
		return false
	}
	for i, state := range states {
		after := t.Loop[0]
		if i+1 < len(states) {
			after = states[i+1]
		}
		if state < 0 || state >= len(g.Next) || !slices.Contains(g.Next[state], after) {
			return false
		}
	}
	return true
}

// wordOf is the test's own word of a trace.
func wordOf(letters []int, t impl.Trace) word {
	var w word
	for _, state := range t.Stem {
		w.stem = append(w.stem, letters[state])
	}
	for _, state := range t.Loop {
		w.loop = append(w.loop, letters[state])
	}
	return w
}

func isWordOf(l impl.Lasso, letters []int, t impl.Trace) bool {
	w := wordOf(letters, t)
	return slices.Equal(l.Stem, w.stem) && slices.Equal(l.Loop, w.loop)
}

// turns returns as many states of a way round a ring, from a state on.
func turns(ring, from, states int) []int {
	var list []int
	for i := range states {
		list = append(list, (from+i)%ring)
	}
	return list
}

func TestTraceValid(t *testing.T) {
	const (
		line   = "0 1|0 2|0 3|0 3"
		around = "0 1|0 2|0 0 3|0 3"
	)
	for _, c := range []struct {
		graph, trace string
		want         bool
	}{
		{"0 0", "(0)", true}, {"0 0", "0 (0)", true}, {"0 0", "0 0 (0 0 0)", true}, {"0 0", "(0 0)", true}, {"0 0", "(1)", false}, {"0 0", "(-1)", false}, {"0 0", "0 (1)", false},
		{line, "0 1 2 (3)", true}, {line, "0 1 2 3 (3)", true}, {line, "0 1 2 (3 3)", true}, {line, "0 1 2 3 3 (3 3 3)", true},
		// An empty loop.
		{line, "0 1 2 3 ()", false}, {line, "0 ()", false}, {line, "()", false}, {"0 0", "0 ()", false}, {"0 0", "()", false},
		// The first state is another one.
		{line, "1 2 (3)", false}, {line, "(3)", false}, {line, "2 (3)", false}, {"0 1|0 1", "(1)", false}, {"0 1|0 0", "(1 0)", false}, {"0 1|0 0", "1 (0 1)", false}, {"0 1|0 0", "(0 1)", true},
		// The stem is no path, the loop is none, or the one does not lead to the other.
		{line, "0 2 (3)", false}, {line, "0 1 1 2 (3)", false}, {line, "0 1 (3)", false}, {line, "0 (3)", false}, {line, "0 1 2 3 2 (3)", false}, {line, "(0 1 2 3)", false}, {around, "(0 2)", false}, {around, "(0 1 2 1 2)", false},
		{around, "0 1 2 (0 1 2)", true}, {around, "0 1 2 (1 2 0)", false}, {around, "0 1 2 0 (1 2 0)", true}, {around, "0 (1 2 0)", true}, {around, "0 1 (2 0 1)", true}, {around, "0 (2 0 1)", false},
		// The last state of the loop does not lead to its first one.
		{line, "0 1 (2 3)", false}, {line, "(0 1 2 3)", false}, {line, "(0)", false}, {line, "0 (1)", false}, {line, "0 1 (2)", false}, {around, "(0 1)", false}, {around, "0 1 (2)", false}, {around, "0 1 2 (0 1)", false}, {around, "0 1 (2 3)", false},
		{around, "(0 1 2)", true}, {around, "(0 1 2 0 1 2)", true}, {around, "0 1 2 (3)", true}, {around, "(0 1 2 3)", false},
		// The order of the successors does not matter, and other successors neither.
		{"0 2 1 0|0 0|0 2 1", "(0)", true}, {"0 2 1 0|0 0|0 2 1", "0 2 (1 0 2)", true}, {"0 2 1 0|0 0|0 2 1", "0 1 0 (2)", true}, {"0 2 1 0|0 0|0 2 1", "0 1 (2)", false},
		// Elements that are no states.
		{around, "0 1 2 (4)", false}, {around, "0 -1 2 (3)", false}, {around, "-1 1 2 (3)", false}, {around, "0 1 4 (3)", false}, {around, "0 1 2 (3 -1)", false}, {around, "0 1 2 (-1 3)", false}, {around, "4 (0 1 2)", false},
	} {
		if got := impl.TraceValid(graphFrom(c.graph), traceFrom(c.trace)); got != c.want {
			t.Errorf("TraceValid of %s and %s = %v", c.graph, c.trace, got)
		}
		if got := isTrace(graphFrom(c.graph), traceFrom(c.trace)); got != c.want {
			t.Errorf("the test's own definition says %v for %s and %s", got, c.graph, c.trace)
		}
	}
}

// A deadlock is its own successor, and so it is a loop.
func TestTraceOfTheExample(t *testing.T) {
	for text, want := range map[string]bool{
		"0 1 2 3 (4)": true, "0 1 2 3 4 (4)": true, "0 1 2 3 (4 4)": true, "0 1 2 (3)": false, "0 1 2 (3 4)": false, "0 1 2 3 ()": false, "(4)": false, "0 1 2 3 (5)": false,
	} {
		if got := impl.TraceValid(exampleGraph(), traceFrom(text)); got != want {
			t.Errorf("TraceValid of %s = %v", text, got)
		}
	}
	word, ok := impl.TraceWord(exampleGraph(), labelsOf(t, "(x<2)", "(x=1)", "(x=y)"), traceFrom("0 1 2 3 (4)"))
	if !ok || lassoText(word) != "5774(4)" {
		t.Errorf("TraceWord = %v, %v", word, ok)
	}
}

// All stems of at most two elements with all loops of at most three, of which
// some elements are no states.
func TestTraceValidOfAllShortTraces(t *testing.T) {
	valid, invalid := 0, 0
	samples := sampleLabels()
	for i, g := range smallGraphs() {
		if i%97 != 0 && len(g.States) > 2 {
			continue
		}
		labels := samples[i%len(samples)]
		letters := lettersOf(g, labels)
		for _, trace := range shortTraces(len(g.States)) {
			want := isTrace(g, trace)
			valid += bit(want)
			invalid += bit(!want)
			if got := impl.TraceValid(g, trace); got != want {
				t.Fatalf("TraceValid of %v and %s = %v", g.Next, traceText(trace), got)
			}
			word, ok := impl.TraceWord(g, labels, trace)
			if ok != want || !want && !isZeroLasso(word) || want && !isWordOf(word, letters, trace) {
				t.Fatalf("TraceWord of %v and %s = %v, %v", g, traceText(trace), word, ok)
			}
		}
	}
	if valid < 1000 || invalid < 1000 {
		t.Errorf("%d traces are valid, and %d are not", valid, invalid)
	}
}

func shortTraces(states int) []impl.Trace {
	lists := [][][]int{{nil}}
	for range 3 {
		var longer [][]int
		for _, list := range lists[len(lists)-1] {
			for state := -1; state <= states; state++ {
				longer = append(longer, append(slices.Clone(list), state))
			}
		}
		lists = append(lists, longer)
	}
	var traces []impl.Trace
	for _, stem := range slices.Concat(lists[:3]...) {
		for _, loop := range slices.Concat(lists...) {
			traces = append(traces, impl.Trace{Stem: stem, Loop: loop})
		}
	}
	return traces
}

// Stem and Loop together may have MaxTrace elements, but no more.
func TestTraceValidAtTheLimit(t *testing.T) {
	for _, c := range []struct {
		ring, stem, loop int
		want             bool
	}{
		{1, 0, 0, false}, {1, 0, 1, true}, {1, 0, 7999, true}, {1, 0, 8000, true}, {1, 0, 8001, false}, {1, 7998, 1, true}, {1, 7999, 1, true}, {1, 8000, 1, false}, {1, 8000, 0, false}, {1, 7999, 0, false}, {1, 1, 7999, true}, {1, 1, 8000, false},
		{1, 4000, 4000, true}, {1, 4000, 4001, false}, {1, 4001, 4000, false}, {1, 8001, 8001, false}, {1, 0, 1000000, false}, {1, 1000000, 1, false}, {60, 20, 7980, true}, {60, 21, 7980, false}, {60, 20, 7979, false}, {60, 7940, 60, true}, {60, 7941, 60, false},
		{8, 0, 8000, true}, {8, 8, 8000, false}, {8, 7992, 8, true}, {8, 7993, 8, false}, {7, 0, 7994, true}, {7, 6, 7994, true}, {7, 7, 7994, false}, {7, 0, 7993, false},
	} {
		trace := impl.Trace{Stem: turns(c.ring, 0, c.stem), Loop: turns(c.ring, c.stem, c.loop)}
		if got := impl.TraceValid(ring(c.ring), trace); got != c.want {
			t.Errorf("TraceValid of %d and %d elements in a ring of %d = %v", c.stem, c.loop, c.ring, got)
		}
	}
	if impl.MaxTrace != 8000 {
		t.Error("the limit is not that of the document")
	}
}

func TestTraceValidOfExtremeElements(t *testing.T) {
	for _, state := range []int{-1, 3, 63, 64, 1 << 40, -1 << 40, math.MinInt, math.MaxInt} {
		for _, trace := range []impl.Trace{
			{Loop: []int{state}}, {Loop: []int{0, state}}, {Loop: []int{state, 0}}, {Stem: []int{state}, Loop: []int{0, 1, 2}}, {Stem: []int{0, state}, Loop: []int{2, 0, 1}}, {Stem: []int{0}, Loop: []int{1, state, 0}},
		} {
			if impl.TraceValid(ring(3), trace) || impl.TraceValid(complete(3), trace) {
				t.Errorf("TraceValid of %s = true", traceText(trace))
			}
			if word, ok := impl.TraceWord(complete(3), plainLabels(), trace); ok || !isZeroLasso(word) {
				t.Errorf("TraceWord of %s = %v, %v", traceText(trace), word, ok)
			}
		}
	}
}

func TestTracesOfInvalidGraphs(t *testing.T) {
	for name, g := range invalidGraphs() {
		for _, text := range []string{"(0)", "(0 1 2)", "0 (1 2 0)", "()", "0 1 2 (0 1 2)", "(0 1)"} {
			if impl.TraceValid(g, traceFrom(text)) {
				t.Errorf("%s: TraceValid of %s = true", name, text)
			}
			if word, ok := impl.TraceWord(g, plainLabels(), traceFrom(text)); ok || !isZeroLasso(word) {
				t.Errorf("%s: TraceWord of %s = %v, %v", name, text, word, ok)
			}
		}
	}
}

func TestTraceWord(t *testing.T) {
	for _, c := range []struct{ graph, trace, want string }{
		{"5 0", "(0)", "(5)"}, {"5 0", "0 0 (0 0)", "55(55)"}, {"1 1|2 2|4 0 2", "(0 1 2)", "(124)"}, {"1 1|2 2|4 0 2", "0 1 (2)", "12(4)"}, {"1 1|2 2|4 0 2", "0 1 2 0 (1 2 2 0)", "1241(2441)"},
		{"0 1|7 0", "0 (1 0)", "0(70)"}, {"3 1|3 2|3 3|6 3", "0 1 2 (3)", "333(6)"},
	} {
		word, ok := impl.TraceWord(graphFrom(c.graph), plainLabels(), traceFrom(c.trace))
		if !ok || lassoText(word) != c.want {
			t.Errorf("TraceWord of %s and %s = %v, %v, want %s", c.graph, c.trace, word, ok, c.want)
		}
	}
}

// A trace may be longer than any lasso.
func TestTraceWordAtTheLimits(t *testing.T) {
	for _, c := range []struct {
		ring, stem, loop int
		want             bool
	}{
		{1, 80, 80, true}, {1, 81, 1, false}, {1, 0, 81, false}, {1, 81, 81, false}, {1, 80, 81, false}, {1, 81, 80, false}, {1, 0, 80, true}, {1, 80, 1, true}, {1, 7920, 80, false}, {1, 0, 8000, false}, {1, 7999, 1, false},
		{40, 80, 80, true}, {40, 81, 80, false}, {40, 79, 80, true}, {40, 80, 120, false}, {60, 80, 60, true}, {60, 81, 60, false}, {60, 0, 120, false}, {27, 80, 81, false}, {20, 80, 80, true}, {1, 80, 0, false}, {1, 8000, 1, false},
	} {
		g := ring(c.ring)
		for i := range g.States {
			g.States[i].Vals = []int{i % 4, i / 4 % 4, i / 16}
		}
		trace := impl.Trace{Stem: turns(c.ring, 0, c.stem), Loop: turns(c.ring, c.stem, c.loop)}
		if want := c.loop > 0 && c.stem+c.loop <= 8000; impl.TraceValid(g, trace) != want {
			t.Errorf("TraceValid of %d and %d elements in a ring of %d = %v", c.stem, c.loop, c.ring, !want)
		}
		word, ok := impl.TraceWord(g, plainLabels(), trace)
		if ok != c.want || !ok && !isZeroLasso(word) {
			t.Errorf("TraceWord of %d and %d elements in a ring of %d = %v, %v", c.stem, c.loop, c.ring, word, ok)
		}
		if ok && !isWordOf(word, lettersOf(g, plainLabels()), trace) {
			t.Errorf("TraceWord of %d and %d elements in a ring of %d = %v", c.stem, c.loop, c.ring, word)
		}
	}
}

func TestTraceWordOfInvalidLabels(t *testing.T) {
	for name, labels := range invalidLabels() {
		for _, trace := range []impl.Trace{traceFrom("(0 1 2)"), traceFrom("0 (1 2 0)"), {}} {
			if word, ok := impl.TraceWord(ring(3), labels, trace); ok || !isZeroLasso(word) {
				t.Errorf("%s: TraceWord = %v, %v", name, word, ok)
			}
		}
	}
}
