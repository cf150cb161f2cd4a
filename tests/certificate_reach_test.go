package tests

import (
	"slices"
	"testing"

	"loop.example/ltlcheck/impl"
)

// boolsFrom reads a list of bools from their digits; bars do not count.
func boolsFrom(text string) []bool {
	var list []bool
	for _, digit := range text {
		if digit != '|' {
			list = append(list, digit == '1')
		}
	}
	return list
}

// reachedIn returns, for each node of a product, whether it is found from the
// initial ones.
func reachedIn(g impl.Graph, letters []int, a impl.Automaton) []bool {
	next := productOf(g, letters, a)
	list := make([]bool, len(next))
	found, _ := searchedNodes(next, a.Initial...)
	for _, node := range found {
		list[node] = true
	}
	return list
}

func checkProductReach(t *testing.T, g impl.Graph, labels []impl.Expr, a impl.Automaton) []bool {
	t.Helper()
	got, ok := impl.ProductReach(g, labels, a)
	if want := reachedIn(g, lettersOf(g, labels), a); !ok || !slices.Equal(got, want) {
		t.Fatalf("ProductReach of %v with%s and %q = %v, %v, want %v", g, labelsText(labels), automatonText(a), got, ok, want)
	}
	return got
}

// A bar stands between the nodes of different states of the graph.
func TestProductReach(t *testing.T) {
	for _, c := range []struct{ graph, automaton, want string }{
		{"0 0", "1|0|0|0 0 0 0", "1"}, {"0 0", "1|0||0 0 0 0", "1"}, {"0 0", "1|0|", "1"}, {"0 0", "3|0|0 2|0 0 0 1|1 0 0 2", "111"}, {"0 1|0 2|0 2", "1|0|0|0 0 0 0", "1|1|1"}, {"0 1|0 1", "2|0|1|0 0 0 0|0 0 0 1", "10|11"},
		// A node without successors ends the search.
		{"0 1|0 2|0 2", "1|0|0|0 1 1 0", "1|0|0"}, {"0 1|0 2|0 2", "2|0|0|0 0 0 1", "10|01|00"}, {"1 1|1 2|0 3|0 3", "1|0|0|0 1 1 0", "1|1|1|0"},
		// Without initial states no node is reachable.
		{"0 0", "1||0|0 0 0 0", "0"}, {"0 1|0 0", "2||0 1|0 0 0 1|1 0 0 0", "00|00"},
		// Several initial states, and others than the first one.
		{"0 0", "3|0 2|", "101"}, {"0 0", "3|0 1 2|", "111"}, {"0 0", "3|1|", "010"}, {"0 1|0 1", "3|0 2||0 0 0 1|2 0 0 2", "101|011"}, {"0 1|0 1", "2|1||1 0 0 0|0 0 0 1", "01|11"}, {"0 1|0 1", "2|0 1||1 0 0 0", "11|10"},
		// A state of the graph or of the automaton that cannot be reached.
		{"0 0|0 0", "1|0||0 0 0 0", "1|0"}, {"0 0|0 1 0|0 2", "1|0||0 0 0 0", "1|0|0"}, {"0 0", "2|0||0 0 0 0", "10"}, {"0 0", "2|0||0 0 0 0|1 0 0 0", "10"}, {"0 0", "3|1||1 0 0 1|0 0 0 1|2 0 0 2", "010"},
		// Both can be reached, but not together.
		{"0 1|0 0", "2|0||0 0 0 1|1 0 0 0", "10|01"}, {"0 1|0 2|0 0", "3|0||0 0 0 1|1 0 0 2|2 0 0 0", "100|010|001"}, {"0 1|0 0", "2|1||0 0 0 1|1 0 0 0", "01|10"}, {"0 1|0 2|0 0", "2|0||0 0 0 1|1 0 0 0", "11|11|11"}, {"0 1|0 2|0 2", "2|0||0 0 0 1|1 0 0 1", "10|01|01"},
		// Edges that cannot be taken with the letter of the state, which is the first one of the edge.
		{"1 0", "2|0||0 1 0 1", "10"}, {"0 0", "2|0||0 1 0 1", "11"}, {"1 1|0 1", "2|0||0 1 0 1", "10|00"}, {"0 1|1 1", "2|0||0 1 0 1", "10|01"}, {"6 0", "2|0||0 7 7 1", "10"}, {"7 0", "2|0||0 7 7 1", "11"}, {"6 0", "2|0||0 6 4 1|0 7 7 1", "10"}, {"4 0", "2|0||0 6 4 1|0 7 7 1", "11"},
		{"1 1|2 0", "2|0||0 1 1 0|0 2 2 1", "11|10"}, {"1 1 0|2 0", "2|0||0 1 1 0|0 2 2 1", "11|10"}, {"0 0 1|0 1", "2|0||0 0 0 1|1 0 0 1", "11|01"}, {"1 1|1 2|2 0", "2|0||0 1 1 0|0 2 2 1|1 2 2 0", "11|10|10"}, {"3 1|3 1", "2|0|0|0 1 1 0|0 2 2 1", "10|11"},
		// Where the accepting states are does not matter.
		{"0 0 1|0 1", "2|0|0|0 0 0 1|1 0 0 1", "11|01"}, {"0 0 1|0 1", "2|0|1|0 0 0 1|1 0 0 1", "11|01"}, {"0 0 1|0 1", "2|0|0 1|0 0 0 1|1 0 0 1", "11|01"},
	} {
		g, a := graphFrom(c.graph), automatonOf(c.automaton)
		if got, ok := impl.ProductReach(g, plainLabels(), a); !ok || !slices.Equal(got, boolsFrom(c.want)) {
			t.Errorf("ProductReach of %s and %s = %v, %v, want %s", c.graph, c.automaton, got, ok, c.want)
		}
		checkProductReach(t, g, plainLabels(), a)
	}
}

func TestProductReachOfTheExample(t *testing.T) {
	labels := labelsOf(t, "(x<2)", "(x=1)", "(x=y)")
	for _, c := range []struct{ automaton, want string }{
		{"1|0|0|0 0 0 0", "1|1|1|1|1"}, {"2|0|1|0 1 1 0|0 1 0 1|1 0 0 1", "10|10|10|10|01"}, {"2|0|1|0 0 0 0|0 2 0 1|1 2 0 1", "10|11|10|10|11"}, {"2|0|1|0 0 0 1|1 0 0 0", "10|01|10|01|11"}, {"1|0|0|0 1 1 0", "1|1|1|1|0"},
	} {
		a := automatonOf(c.automaton)
		if got, ok := impl.ProductReach(exampleGraph(), labels, a); !ok || !slices.Equal(got, boolsFrom(c.want)) {
			t.Errorf("ProductReach of the example and %s = %v, %v, want %s", c.automaton, got, ok, c.want)
		}
		checkProductReach(t, exampleGraph(), labels, a)
	}
}

func TestProductReachOfSampleGraphs(t *testing.T) {
	labels := variedLabels(t)
	automata := slices.Concat(smallAutomata(), mixedAutomata(300), rareAutomata(100))
	all, none, some := 0, 0, 0
	for i, g := range labelledGraphs(t) {
		for j := i % 61; j < len(automata); j += 61 {
			list := checkProductReach(t, g, labels[(i+j)%len(labels)], automata[j])
			switch {
			case !slices.Contains(list, false):
				all++
			case !slices.Contains(list, true):
				none++
			default:
				some++
			}
		}
	}
	if all < 500 || none < 500 || some < 5000 {
		t.Errorf("all nodes can be reached in %d products, none in %d, and some in %d", all, none, some)
	}
}

func TestProductReachOfLargeProducts(t *testing.T) {
	n := &numbers{last: 31}
	graphs := []impl.Graph{withVals(n, ring(60)), withVals(n, complete(60)), graphOf(grid60(t)), graphOf(cycle60(t)), withVals(n, mixedGraph(n, 60, 3)), ring(59)}
	for i, g := range graphs {
		for j, a := range append(largeAutomata(), wheel(64), wheel(63)) {
			if len(a.Edges) < 300 || (i+j)%4 == 0 {
				checkProductReach(t, g, variedLabels(t)[(i+j)%7], a)
			}
		}
	}
	if all := checkProductReach(t, ring(59), plainLabels(), freeWheel(64)); len(all) != 59*64 || slices.Contains(all, false) {
		t.Errorf("ProductReach of cycles of 59 and of 64 states = %v", all)
	}
}

// freeWheel returns an automaton whose states form a cycle that each word can
// go round.
func freeWheel(states int) impl.Automaton {
	a := wheel(states)
	for i := range a.Edges {
		a.Edges[i].Care, a.Edges[i].Value = 0, 0
	}
	return a
}

func TestProductReachOfInvalidArguments(t *testing.T) {
	forInvalidProducts(automatonOf("1|0|"), func(what string, g impl.Graph, labels []impl.Expr, a impl.Automaton) {
		if list, ok := impl.ProductReach(g, labels, a); ok || len(list) != 0 {
			t.Errorf("%s: ProductReach = %v, %v", what, list, ok)
		}
	})
}
