package tests

import (
	"slices"
	"testing"

	"loop.example/ltlcheck/impl"
)

// productOf returns the successors of each node of a product. With n states of
// the automaton, the node of state i of the graph and of its state q is i*n+q.
func productOf(g impl.Graph, letters []int, a impl.Automaton) [][]int {
	n := len(a.Accepting)
	next := make([][]int, len(g.Next)*n)
	for node := range next {
		var targets []int
		for _, e := range a.Edges {
			if e.From == node%n && canTake(e, letters[node/n]) {
				targets = append(targets, e.To)
			}
		}
		for _, i := range g.Next[node/n] {
			for _, q := range targets {
				next[node] = append(next[node], i*n+q)
			}
		}
	}
	return next
}

// searchedNodes returns the nodes that a breadth-first search finds, in order,
// and for each of them the node before it, which is -1 for the starts.
func searchedNodes(next [][]int, starts ...int) ([]int, map[int]int) {
	before := map[int]int{}
	for _, node := range starts {
		before[node] = -1
	}
	found := slices.Clone(starts)
	for i := 0; i < len(found); i++ {
		for _, node := range next[found[i]] {
			if _, known := before[node]; !known {
				before[node] = found[i]
				found = append(found, node)
			}
		}
	}
	return found, before
}

// statesTo returns the states of the graph on the path to a node.
func statesTo(before map[int]int, node, n int) []int {
	var list []int
	for ; node >= 0; node = before[node] {
		list = append([]int{node / n}, list...)
	}
	return list
}

// foundTrace is the chapter's text about the search, written down once more.
func foundTrace(g impl.Graph, letters []int, a impl.Automaton) (impl.Trace, bool) {
	n := len(a.Accepting)
	next := productOf(g, letters, a)
	found, before := searchedNodes(next, a.Initial...)
	for _, node := range found {
		if !a.Accepting[node%n] {
			continue
		}
		stem := statesTo(before, node, n)
		stem = stem[:len(stem)-1]
		if slices.Contains(next[node], node) {
			return impl.Trace{Stem: stem, Loop: []int{node / n}}, true
		}
		around, back := searchedNodes(next, node)
		for _, last := range around {
			if slices.Contains(next[last], node) {
				return impl.Trace{Stem: stem, Loop: statesTo(back, last, n)}, true
			}
		}
	}
	return impl.Trace{}, false
}

// graphAutomaton accepts the words of the traces of a graph.
func graphAutomaton(g impl.Graph, letters []int) impl.Automaton {
	a := impl.Automaton{Initial: []int{0}, Accepting: slices.Repeat([]bool{true}, len(g.Next))}
	for i, next := range g.Next {
		for _, j := range next {
			a.Edges = append(a.Edges, edge(i, 7, letters[i], j))
		}
	}
	return a
}

func checkFindTrace(t *testing.T, g impl.Graph, labels []impl.Expr, a impl.Automaton) bool {
	t.Helper()
	letters := lettersOf(g, labels)
	got, ok := impl.FindTrace(g, labels, a)
	want, found := foundTrace(g, letters, a)
	if ok != found || !equalTraces(got, want) {
		t.Fatalf("FindTrace of %v with the letters %v and %q = %s, %v, want %s, %v", g.Next, letters, automatonText(a), traceText(got), ok, traceText(want), found)
	}
	if ok && (!isTrace(g, got) || !impl.TraceValid(g, got)) {
		t.Fatalf("FindTrace of %v and %q = %s, which is no trace", g.Next, automatonText(a), traceText(got))
	}
	if ok && len(got.Stem)+len(got.Loop) < 100 && !acceptsWord(a, wordOf(letters, got)) {
		t.Fatalf("FindTrace of %v with the letters %v and %q = %s, which is not accepted", g.Next, letters, automatonText(a), traceText(got))
	}
	return ok
}

func TestFindTrace(t *testing.T) {
	const (
		all  = "1|0|0|0 0 0 0"
		fork = "4|0|1 2|0 1 1 1|0 1 0 2|1 0 0 1|2 0 0 3|3 0 0 2"
		pick = "3|0|1 2|0 0 0 1|0 0 0 2|1 1 1 1|2 1 0 2"
	)
	for _, c := range []struct{ graph, automaton, want string }{
		// A loop of a single state.
		{"0 0", all, "(0)"}, {"7 0", "1|0|0|0 7 7 0", "(0)"}, {"6 0", "1|0|0|0 7 7 0", ""}, {"0 1|0 1", all, "0 (1)"}, {"0 1|0 2|0 2", all, "0 1 (2)"}, {"0 1|1 2|2 2", "2|0|1|0 0 0 0|0 2 2 1|1 2 2 1", "0 1 2 (2)"},
		// It comes before longer ones, also if another successor is found first.
		{"0 1 0|0 0", all, "(0)"}, {"0 1|0 0 1|0 2", all, "(0 1)"}, {"0 1|0 2 1|0 1", all, "0 (1)"}, {"0 0", "2|0|0|0 0 0 1|0 0 0 0|1 0 0 0", "(0)"},
		// An initial node that is accepting and lies on a cycle.
		{"0 1|0 0", all, "(0 1)"}, {"0 1|0 2|0 0", all, "(0 1 2)"}, {"0 1|0 0", "2|1|1|1 0 0 0|0 0 0 1", "(0 1)"}, {"1 1|0 0", "2|0|0|0 1 1 1|1 1 0 0", "(0 1)"},
		// An initial node that is accepting and lies on none.
		{"0 1|0 2|0 1", all, "0 (1 2)"}, {"0 0", "2|0|0 1|0 0 0 1|1 0 0 1", "0 (0)"}, {"0 0", "2|0|0|0 0 0 1|1 0 0 1", ""}, {"0 1|0 1", "2|0|0|0 0 0 1|1 0 0 0", "0 1 (1 1)"},
		// Several nodes of the product share a state of the graph.
		{"0 0", "2|0|0|0 0 0 1|1 0 0 0", "(0 0)"}, {"0 0", "2|0|1|0 0 0 1|1 0 0 0", "0 (0 0)"}, {"0 0", "3|0|2|0 0 0 1|1 0 0 2|2 0 0 0", "0 0 (0 0 0)"}, {"0 0", "4|0|3|0 0 0 1|1 0 0 2|2 0 0 3|3 0 0 3", "0 0 0 (0)"},
		{"1 1|0 0", "3|0|0|0 0 0 1|1 0 0 2|2 0 0 0", "(0 1 0 1 0 1)"}, {"1 1|0 0", "3|0|2|0 0 0 1|1 0 0 2|2 0 0 0", "0 1 (0 1 0 1 0 1)"}, {"0 1|0 2|0 0", "2|0|1|0 0 0 1|1 0 0 0", "0 (1 2 0 1 2 0)"}, {"0 1|0 0 1", "3|0|0|0 0 0 1|1 0 0 2|2 0 0 0", "(0 1 1)"},
		// The letter of the first state decides, and not that of its successor.
		{"1 1|0 1", "2|0|1|0 1 1 1|1 1 0 1", "0 (1)"}, {"0 1|1 1", "2|0|1|0 1 1 1|1 1 0 1", ""}, {"0 1|1 1", "2|0|1|0 1 0 1|1 1 1 1", "0 (1)"}, {"2 1|5 0", "2|0|0|0 7 2 1|1 7 5 0", "(0 1)"}, {"2 1|5 0", "2|0|0|0 7 5 1|1 7 2 0", ""},
		// Edges between the same states, of which one or the other or both can be taken.
		{"1 0", "1|0|0|0 1 1 0|0 2 2 0", "(0)"}, {"2 0", "1|0|0|0 1 1 0|0 2 2 0", "(0)"}, {"3 0", "1|0|0|0 1 1 0|0 2 2 0", "(0)"}, {"4 0", "1|0|0|0 1 1 0|0 2 2 0", ""}, {"1 1|2 0", "1|0|0|0 1 1 0|0 2 2 0", "(0 1)"}, {"1 1|4 0", "1|0|0|0 1 1 0|0 2 2 0", ""},
		{"1 1|0 2|2 2", "2|0|1|0 1 1 0|0 1 0 0|0 2 2 1|1 2 2 1|1 1 1 1", "0 1 2 (2)"}, {"1 0", "2|0|0|0 1 0 1|0 1 1 1|1 1 1 0|1 1 0 0", "(0 0)"}, {"0 0", "2|0|0|0 1 0 1|0 1 1 1|1 1 1 0|1 1 1 0", ""},
		// Edges with Care 0 can be taken with each letter, and the atoms that are not in Care do not matter.
		{"0 1|5 2|7 0", all, "(0 1 2)"}, {"6 0", "1|0|0|0 1 0 0", "(0)"}, {"7 0", "1|0|0|0 5 5 0", "(0)"}, {"3 0", "1|0|0|0 5 5 0", ""}, {"4 0", "1|0|0|0 6 4 0", "(0)"}, {"6 0", "1|0|0|0 6 4 0", ""},
		// The edge that can be taken decides how the search goes on.
		{"0 1|1 1", fork, "0 (1 1)"}, {"1 1|1 1", fork, "0 (1)"}, {"0 0", fork, "0 (0 0)"}, {"1 0", fork, "0 (0)"},
		// The initial nodes come first, in order.
		{"0 0", "3|0 1|0 1|0 0 0 2|2 0 0 0|1 0 0 1", "(0 0)"}, {"0 0", "3|1|0 1|0 0 0 2|2 0 0 0|1 0 0 1", "(0)"}, {"0 0", "3|0 1|1|0 0 0 2|2 0 0 0|1 0 0 1", "(0)"}, {"0 0", "3|0 1|0 1|0 0 0 0|1 0 0 2|2 0 0 1", "(0)"}, {"0 0", "3|1 2|0|1 0 0 2|2 0 0 0|0 0 0 1", "0 (0 0 0)"},
		{"0 1 2|0 1|1 2", "3|0 1|2|0 0 0 0|1 0 0 2|2 1 1 2", "0 (2)"}, {"0 1 2|1 1|0 2", "3|0 1|2|1 0 0 2|0 0 0 2|2 1 0 2", "0 (2)"},
		// The successors in the order of the graph, and for each of them the edges in order.
		{"0 2 1|0 1|0 2", "2|0|1|0 0 0 1|1 0 0 1", "0 (2)"}, {"0 1 2|0 1|0 2", "2|0|1|0 0 0 1|1 0 0 1", "0 (1)"}, {"0 1 2|0 1|1 2", pick, "0 (1)"}, {"0 2 1|0 1|1 2", pick, "0 (2)"}, {"0 1 2|1 1|0 2", pick, "0 (1)"}, {"0 1|0 1", "3|0|1 2|0 0 0 2|0 0 0 1|1 0 0 1|2 0 0 0", "0 (1 1)"},
		{"0 0", "3|0|1 2|0 0 0 1|0 0 0 2|1 0 0 1|2 0 0 0", "0 (0)"}, {"0 0", "3|0|1 2|0 0 0 2|0 0 0 1|1 0 0 1|2 0 0 0", "0 (0 0)"}, {"0 0", "3|0|1 2|2 0 0 0|0 0 0 2|1 0 0 1|0 0 0 1", "0 (0 0)"},
		// The first accepting node on a cycle in this order, whatever its numbers are and however long its loop is.
		{"0 2 1|0 1|0 3|0 2", all, "0 (2 3)"}, {"0 1 2|0 1|0 3|0 2", all, "0 (1)"}, {"0 3 1|0 1|0 2|0 2", all, "0 (1)"}, {"0 3|0 1|0 1|0 2", all, "0 3 2 (1)"}, {"0 2|0 1|0 3|0 1 2", all, "0 (2 3)"},
		// The path to it is the one by which the search found it.
		{"0 1 2|0 3|0 3|0 3", all, "0 1 (3)"}, {"0 2 1|0 3|0 3|0 3", all, "0 2 (3)"}, {"0 1 2|0 3|0 4|0 4|0 4", all, "0 2 (4)"}, {"0 1 2|1 3|2 3|0 3", "3|0|2|0 0 0 0|0 2 2 1|1 0 0 2|2 0 0 2", "0 2 3 (3)"},
		// Of several cycles, the one whose last node is found first, and by the path by which it is found.
		{"0 1 2|0 3|0 0|0 0", all, "(0 2)"}, {"0 1 2|0 0|0 0", all, "(0 1)"}, {"0 2 1|0 0|0 0", all, "(0 2)"}, {"0 1 2|0 3|0 3|0 0", all, "(0 1 3)"}, {"0 2 1|0 3|0 3|0 0", all, "(0 2 3)"}, {"0 1|0 1 2|0 0", "2|0|0|0 0 0 1|1 0 0 1|1 0 0 0", "(0 1 2)"},
		{"0 1|0 2 3|0 4|0 1|0 1", "2|0|1|0 0 0 1|1 0 0 1", "0 (1 3)"}, {"0 1|0 2 3|0 1|0 1", "2|0|1|0 0 0 1|1 0 0 1", "0 (1 2)"},
		// A word that needs one part of the graph and then another.
		{"1 0 1|2 1 2|4 2", "3|0|2|0 1 1 0|0 2 2 1|1 2 2 1|1 4 4 2|2 4 4 2", "0 1 2 (2)"}, {"1 0 1|0 0", "2|0|0|0 1 1 1|1 1 0 0", "(0 1)"}, {"1 0", "2|0|0|0 1 1 1|1 1 0 0", ""}, {"1 0 1|2 0", "2|0|1|0 0 0 0|0 2 2 1|1 1 1 0", "0 1 (0 1)"},
		// No trace: no initial states, no word at all, or none of the graph.
		{"0 0", "1||0|0 0 0 0", ""}, {"0 0", "1||", ""}, {"0 0", "1|0|0", ""}, {"0 0", "1|0||0 0 0 0", ""}, {"0 0", "2|0|1|0 0 0 1", ""}, {"0 0", "2|0|1|0 0 0 0|1 0 0 1", ""}, {"0 1|0 0", "2|0|0|0 0 0 1|1 0 0 1", ""}, {"0 0", "2|0|1|0 0 0 1|1 1 1 1|1 1 1 0", ""},
		{"0 0|1 1", "2|0|1|0 0 0 0|0 1 1 1|1 0 0 1", ""}, {"0 1|1 0", "1|0|0|0 1 1 0", ""}, {"0 1|1 1", "1|0|0|0 1 1 0", ""}, {"1 1|0 1", "1|0|0|0 1 1 0", ""}, {"1 1|1 2|0 0", "2|0|1|0 1 1 0|0 1 0 1|1 1 0 1", ""},
	} {
		g, a := graphFrom(c.graph), automatonOf(c.automaton)
		got, ok := impl.FindTrace(g, plainLabels(), a)
		if ok != (c.want != "") || ok && traceText(got) != c.want || !ok && !isZeroTrace(got) {
			t.Errorf("FindTrace of %s and %s = %s, %v, want %s", c.graph, c.automaton, traceText(got), ok, c.want)
		}
		checkFindTrace(t, g, plainLabels(), a)
	}
}

// The deadlock is its own successor.
func TestFindTraceOfTheExample(t *testing.T) {
	labels := labelsOf(t, "(x<2)", "(x=1)", "(x=y)")
	for _, c := range []struct{ automaton, want string }{
		{"1|0|0|0 0 0 0", "0 1 2 3 (4)"}, {"2|0|1|0 1 1 0|0 1 0 1|1 0 0 1", "0 1 2 3 (4)"}, {"2|0|1|0 0 0 0|0 2 0 1|1 2 0 1", "0 1 2 3 (4)"}, {"2|0|1|0 0 0 1|1 0 0 0", "0 1 2 3 4 (4 4)"},
		{"2|0|0|0 0 0 1|1 0 0 0", "0 1 2 3 (4 4)"}, {"1|0|0|0 1 1 0", ""}, {"2|0|1|0 0 0 0|0 2 2 1|1 2 2 1", ""}, {"3|0|2|0 7 5 1|1 7 7 1|1 7 4 2|2 7 4 2", "0 1 2 3 (4)"},
	} {
		a := automatonOf(c.automaton)
		got, ok := impl.FindTrace(exampleGraph(), labels, a)
		if ok != (c.want != "") || ok && traceText(got) != c.want {
			t.Errorf("FindTrace of the example and %s = %s, %v, want %s", c.automaton, traceText(got), ok, c.want)
		}
		checkFindTrace(t, exampleGraph(), labels, a)
	}
}

// labelledGraphs returns graphs with letters of all kinds: small and larger ones
// whose states have any values, and those of systems.
func labelledGraphs(t *testing.T) []impl.Graph {
	t.Helper()
	n := &numbers{last: 21}
	var list []impl.Graph
	for i, g := range smallGraphs() {
		if i%5 == 0 || len(g.States) < 3 {
			list = append(list, withVals(n, g))
		}
	}
	for states := 4; states <= 12; states++ {
		for range 25 {
			list = append(list, withVals(n, mixedGraph(n, states, 2+n.below(4))))
		}
	}
	for _, s := range graphSystems(t) {
		if g := graphOf(s); len(g.States) <= 30 {
			list = append(list, g)
		}
	}
	return list
}

// withVals gives the states of a graph values of any kind.
func withVals(n *numbers, g impl.Graph) impl.Graph {
	for i := range g.States {
		g.States[i].Vals = []int{n.below(4), n.below(4), n.below(4)}
	}
	return g
}

// variedLabels returns labels of which most are true in some states only.
func variedLabels(t *testing.T) [][]impl.Expr {
	t.Helper()
	return [][]impl.Expr{
		labelsOf(t, "(x<2)", "(y<2)", "(z<2)"), labelsOf(t, "(x=1)", "(x<2)", "(x=y)"), labelsOf(t, "!x", "!y", "!z"), labelsOf(t, "(x<y)", "(y<x)", "(x=y)"), labelsOf(t, "(2<(x+y))", "x", "(y-x)"), labelsOf(t, "x", "(x&y)", "(x|y)"), plainLabels(),
	}
}

// rareAutomata returns automata with one initial and one accepting state, which
// make stems and loops longer.
func rareAutomata(count int) []impl.Automaton {
	n := &numbers{last: 23}
	var list []impl.Automaton
	for range count {
		states := 4 + n.below(6)
		a := withInitial(mixedAutomaton(n, states, n.below(2*states), 2), 0)
		for i := range states {
			a.Accepting[i] = i == states-1
			a.Edges = append(a.Edges, edge(i, 0, 0, (i+1)%states))
		}
		list = append(list, a)
	}
	return list
}

func TestFindTraceOfSampleGraphs(t *testing.T) {
	labels := variedLabels(t)
	automata := slices.Concat(smallAutomata(), mixedAutomata(300), rareAutomata(100))
	found, none, long := 0, 0, 0
	for i, g := range labelledGraphs(t) {
		for j := i % 31; j < len(automata); j += 31 {
			l := labels[(i+j)%len(labels)]
			if checkFindTrace(t, g, l, automata[j]) {
				trace, _ := impl.FindTrace(g, l, automata[j])
				long += bit(len(trace.Stem) > 2 && len(trace.Loop) > 2)
				found++
			} else {
				none++
			}
		}
	}
	if found < 2000 || none < 2000 || long < 500 {
		t.Errorf("%d traces are found, %d of them with a stem and a loop of several states, and %d are not", found, long, none)
	}
}

// A trace is found exactly if the automaton and that of the graph accept a word
// together.
func TestFindTraceFindsOneIfThereIsOne(t *testing.T) {
	labels := variedLabels(t)
	automata := append(smallAutomata(), mixedAutomata(300)...)
	found, none := 0, 0
	for i, g := range labelledGraphs(t) {
		l := labels[i%len(labels)]
		words := graphAutomaton(g, lettersOf(g, l))
		for j := i % 101; j < len(automata); j += 101 {
			both, ok := impl.IntersectAutomata(words, automata[j])
			if !ok {
				continue
			}
			_, some := impl.FindWord(both)
			trace, ok := impl.FindTrace(g, l, automata[j])
			if ok != some {
				t.Fatalf("FindTrace of %v with%s and %q = %s, %v", g, labelsText(l), automatonText(automata[j]), traceText(trace), ok)
			}
			found += bit(ok)
			none += bit(!ok)
		}
	}
	if found < 1000 || none < 1000 {
		t.Errorf("%d traces are found, and %d are not", found, none)
	}
}

// Graphs and automata of sizes up to the limits.
func TestFindTraceOfLargeProducts(t *testing.T) {
	n := &numbers{last: 22}
	graphs := []impl.Graph{withVals(n, ring(60)), withVals(n, complete(60)), graphOf(grid60(t)), graphOf(cycle60(t))}
	for _, states := range []int{20, 40, 60} {
		graphs = append(graphs, withVals(n, mixedGraph(n, states, 3)), withVals(n, mixedGraph(n, states, 6)))
	}
	automata := largeAutomata()
	for _, size := range []int{10, 20, 30, 64} {
		automata = append(automata, mixedAutomaton(n, size, 2*size, 3), mixedAutomaton(n, size, 3*size, 2))
	}
	found, none := 0, 0
	for i, g := range graphs {
		for j, a := range automata {
			if len(a.Edges) > 300 && (i+j)%4 > 0 {
				continue
			}
			if checkFindTrace(t, g, variedLabels(t)[(i+j)%7], a) {
				found++
			} else {
				none++
			}
		}
	}
	if found < 50 || none < 20 {
		t.Errorf("%d traces are found, and %d are not", found, none)
	}
}

// Each node of the product of two cycles without a common divisor is on one
// cycle of all nodes.
func TestFindTraceOfTheLongestLoop(t *testing.T) {
	a := automatonOf("1|0|")
	a.Accepting = make([]bool, 64)
	for i := range 64 {
		a.Edges = append(a.Edges, edge(i, 0, 0, (i+1)%64))
	}
	a.Accepting[63] = true
	trace, ok := impl.FindTrace(ring(59), plainLabels(), a)
	want := impl.Trace{Stem: turns(59, 0, 63), Loop: turns(59, 63, 59*64)}
	if !ok || !equalTraces(trace, want) || !impl.TraceValid(ring(59), trace) {
		t.Errorf("FindTrace = %s, %v", traceText(trace), ok)
	}
	if word, ok := impl.TraceWord(ring(59), plainLabels(), trace); ok || !isZeroLasso(word) {
		t.Errorf("TraceWord of a trace that is too long = %v, %v", word, ok)
	}
	a.Edges[62].Care, a.Edges[62].Value = 1, 1
	if trace, ok := impl.FindTrace(ring(59), plainLabels(), a); ok || !isZeroTrace(trace) {
		t.Errorf("FindTrace = %s, %v, though the accepting state cannot be reached", traceText(trace), ok)
	}
}

// The last state of both cycles is reached together for the first time after
// 59*63 steps, and only then the accepting state is entered.
func TestFindTraceOfTheLongestStem(t *testing.T) {
	g := ring(59)
	g.States[58].Vals = []int{1, 0, 0}
	a := impl.Automaton{Initial: []int{0}, Accepting: make([]bool, 64)}
	for i := range 63 {
		a.Edges = append(a.Edges, edge(i, 0, 0, (i+1)%63))
	}
	a.Edges = append(a.Edges, edge(62, 1, 1, 63), edge(63, 0, 0, 63))
	a.Accepting[63] = true
	trace, ok := impl.FindTrace(g, plainLabels(), a)
	if want := (impl.Trace{Stem: turns(59, 0, 59*63), Loop: turns(59, 0, 59)}); !ok || !equalTraces(trace, want) || !impl.TraceValid(g, trace) {
		t.Errorf("FindTrace = %s, %v", traceText(trace), ok)
	}
}

// Very many accepting nodes can be reached, and none of them is on a cycle.
func TestFindTraceOfAcceptingNodesWithoutCycles(t *testing.T) {
	a := impl.Automaton{Initial: ascendingList(64), Accepting: slices.Repeat([]bool{true}, 64)}
	for i := range 64 {
		for j := i + 1; j < 64; j++ {
			a.Edges = append(a.Edges, edge(i, 0, 0, j))
		}
	}
	if trace, ok := impl.FindTrace(complete(60), plainLabels(), a); ok || !isZeroTrace(trace) {
		t.Errorf("FindTrace = %s, %v", traceText(trace), ok)
	}
	a.Edges = append(a.Edges, edge(63, 0, 0, 63))
	if trace, ok := impl.FindTrace(complete(60), plainLabels(), a); !ok || traceText(trace) != "(0)" {
		t.Errorf("FindTrace = %s, %v", traceText(trace), ok)
	}
}

func TestFindTraceOfInvalidArguments(t *testing.T) {
	forInvalidProducts(automatonOf("1|0|0|0 0 0 0"), func(what string, g impl.Graph, labels []impl.Expr, a impl.Automaton) {
		if trace, ok := impl.FindTrace(g, labels, a); ok || !isZeroTrace(trace) {
			t.Errorf("%s: FindTrace = %s, %v", what, traceText(trace), ok)
		}
	})
}

// forInvalidProducts goes through arguments of which some are not valid. The
// automaton is used where it is another argument that is not.
func forInvalidProducts(valid impl.Automaton, check func(string, impl.Graph, []impl.Expr, impl.Automaton)) {
	for name, g := range invalidGraphs() {
		check("g: "+name, g, plainLabels(), valid)
		check("g and labels: "+name, g, nil, valid)
		check("g and a: "+name, g, plainLabels(), impl.Automaton{})
	}
	for name, labels := range invalidLabels() {
		check("labels: "+name, ring(1), labels, valid)
		check("labels and a: "+name, ring(1), labels, impl.Automaton{})
	}
	for name, a := range invalidAutomata() {
		check("a: "+name, ring(1), plainLabels(), a)
		check("a: "+name, exampleGraph(), plainLabels(), a)
	}
}
