package tests

import (
	"slices"
	"strconv"
	"strings"
	"testing"

	"loop.example/ltlcheck/impl"
)

// ranksFrom reads a list of ranks; bars do not count, and - is no rank.
func ranksFrom(text string) []int {
	var list []int
	for _, field := range strings.Fields(strings.ReplaceAll(text, "|", " ")) {
		rank, err := strconv.Atoi(field)
		if err != nil {
			rank = -1
		}
		list = append(list, rank)
	}
	return list
}

func certificateFrom(text string) impl.Certificate {
	return impl.Certificate{Ranks: ranksFrom(text)}
}

func isZeroCertificate(c impl.Certificate) bool { return len(c.Ranks) == 0 }

// leastRanks returns the least solution of the chapter's equations for the
// reachable nodes, by passes from 0 on until nothing changes, and -1 for the
// others. There is none exactly if there is a trace.
func leastRanks(g impl.Graph, letters []int, a impl.Automaton) ([]int, bool) {
	if _, found := foundTrace(g, letters, a); found {
		return nil, false
	}
	return ranksAfter(g, letters, a, -1), true
}

// ranksAfter returns the ranks after so many passes; after -1 of them means when
// nothing changes any more.
func ranksAfter(g impl.Graph, letters []int, a impl.Automaton, passes int) []int {
	next := productOf(g, letters, a)
	found, _ := searchedNodes(next, a.Initial...)
	ranks := slices.Repeat([]int{-1}, len(next))
	for _, node := range found {
		ranks[node] = 0
	}
	for changed := true; changed && passes != 0; passes-- {
		changed = false
		for _, node := range slices.Backward(found) {
			rank := 0
			for _, to := range next[node] {
				rank = max(rank, ranks[to]+bit(a.Accepting[node%len(a.Accepting)]))
			}
			changed = changed || rank != ranks[node]
			ranks[node] = rank
		}
	}
	return ranks
}

func checkMakeCertificate(t *testing.T, g impl.Graph, labels []impl.Expr, a impl.Automaton) ([]int, bool) {
	t.Helper()
	got, ok := impl.MakeCertificate(g, labels, a)
	want, exists := leastRanks(g, lettersOf(g, labels), a)
	if ok != exists || !slices.Equal(got.Ranks, want) {
		t.Fatalf("MakeCertificate of %v with%s and %q = %v, %v, want %v, %v", g, labelsText(labels), automatonText(a), got, ok, want, exists)
	}
	if _, found := impl.FindTrace(g, labels, a); found == ok {
		t.Fatalf("MakeCertificate of %v with%s and %q = %v, %v, but FindTrace returns %v", g, labelsText(labels), automatonText(a), got, ok, found)
	}
	return want, ok
}

// The ranks that are wanted are empty if there is a trace.
func TestMakeCertificate(t *testing.T) {
	const exits = "5|0|2 3|0 0 0 1|1 0 0 0|0 0 0 2|1 0 0 4|2 0 0 3|3 0 0 4"
	for _, c := range []struct{ graph, automaton, want string }{
		// The chapter's example, and other paths.
		{"0 0", "3|0|0 2|0 0 0 1|1 0 0 2", "1 0 0"}, {"0 0", "3|0|0 1 2|0 0 0 1|1 0 0 2", "2 1 0"}, {"0 0", "3|0|0 1|0 0 0 1|1 0 0 2", "2 1 0"}, {"0 0", "3|0|1|0 0 0 1|1 0 0 2", "1 1 0"}, {"0 0", "3|0|2|0 0 0 1|1 0 0 2", "0 0 0"}, {"0 0", "3|0||0 0 0 1|1 0 0 2", "0 0 0"},
		{"0 0", "3|2|0 2|2 0 0 1|1 0 0 0", "0 0 1"}, {"0 0", "5|0|0 2 3|0 0 0 1|1 0 0 2|2 0 0 3|3 0 0 4", "3 2 2 1 0"}, {"1 1|1 2|0 2", "1|0|0|0 1 1 0", "2|1|0"}, {"1 1|1 2|0 2", "1|0||0 1 1 0", "0|0|0"}, {"0 1|0 2|0 2", "2|0|0|0 0 0 1", "1 -|- 0|- -"},
		// Nodes without successors, accepting ones and others.
		{"0 0", "1|0|0", "0"}, {"0 0", "1|0|", "0"}, {"1 0", "1|0|0|0 1 0 0", "0"}, {"0 0", "2|0 1|0 1", "0 0"}, {"0 0", "2|0|0 1|0 0 0 1", "1 0"}, {"0 0", "2|0|0 1|0 1 1 1", "0 -"}, {"0 1|0 0", "1|0|0|0 1 1 0", "0|-"}, {"1 1|0 0", "1|0|0|0 1 1 0", "1|0"}, {"0 0 1|1 1", "2|0 1|0 1|0 1 1 1", "0 0|- -"},
		// Cycles without an accepting node.
		{"0 0", "1|0||0 0 0 0", "0"}, {"0 1|0 0", "1|0||0 0 0 0", "0|0"}, {"0 0", "2|0||0 0 0 1|1 0 0 0", "0 0"}, {"0 1|0 0", "2|0|1|0 0 0 0", "0 -|0 -"}, {"0 0 1|0 0 1", "2|0 1||0 0 0 1|1 0 0 0", "0 0|0 0"},
		// Cycles before an accepting node, and behind one.
		{"0 0", "2|0|1|0 0 0 0|0 0 0 1", "0 0"}, {"0 0", "3|0|1|0 0 0 0|0 0 0 1|1 0 0 2", "1 1 0"}, {"0 0", "2|0|0|0 0 0 1|1 0 0 1", "1 0"}, {"0 0", "3|0|1|0 0 0 0|0 0 0 1|1 0 0 2|2 0 0 2", "1 1 0"}, {"0 0", "4|0|0 2|0 0 0 1|1 0 0 1|1 0 0 2|2 0 0 3|3 0 0 3", "2 1 1 0"},
		// All nodes of a cycle get their rank from outside, whichever of them has the edge.
		{"0 0", "4|0|2|0 0 0 1|1 0 0 0|1 0 0 2|2 0 0 3", "1 1 1 0"}, {"0 0", "4|0|2|0 0 0 1|1 0 0 0|0 0 0 2|2 0 0 3", "1 1 1 0"}, {"0 0", "4|1|2|0 0 0 1|1 0 0 0|0 0 0 2|2 0 0 3", "1 1 1 0"}, {"0 0", exits, "2 2 2 1 0"}, {"0 0", exits + "|4 0 0 4", "2 2 2 1 0"},
		{"0 0", "5|0|3|0 0 0 1|1 0 0 2|2 0 0 0|1 0 0 3|3 0 0 4", "1 1 1 1 0"}, {"0 0", "6|0|2 5|0 0 0 1|1 0 0 0|0 0 0 2|2 0 0 3|3 0 0 4|4 0 0 3|4 0 0 5|5 0 0 5", ""}, {"0 0", "7|0|2 5|0 0 0 1|1 0 0 0|0 0 0 2|2 0 0 3|3 0 0 4|4 0 0 3|4 0 0 5|5 0 0 6", "2 2 2 1 1 1 0"},
		{"0 1|0 0 2|0 2", "2|0|1|0 0 0 0|0 0 0 1", "0 0|0 0|0 0"}, {"0 1|0 0 2|1 2", "3|0|1|0 0 0 0|0 1 1 1|1 0 0 2", "1 - -|1 - -|1 1 0"},
		// The greatest rank of the successors counts, wherever it stands.
		{"0 0", "4|0|1|0 0 0 1|0 0 0 3|1 0 0 2", "1 1 0 0"}, {"0 0", "4|0|1|0 0 0 3|0 0 0 1|1 0 0 2", "1 1 0 0"}, {"0 0", "4|0|0 1|0 0 0 3|0 0 0 1|1 0 0 2", "2 1 0 0"}, {"0 0", "4|0|0 1 2|0 0 0 3|0 0 0 2|0 0 0 1|1 0 0 2|2 0 0 3", "3 2 1 0"}, {"0 0", "4|0|0 1 2|0 0 0 1|0 0 0 2|0 0 0 3|1 0 0 2|2 0 0 3", "3 2 1 0"},
		// Nodes that are not reachable: only a state of the graph, only one of the automaton, or only both together.
		{"0 0|0 0", "1|0||0 0 0 0", "0|-"}, {"0 0", "2|0||0 0 0 0|1 0 0 1", "0 -"}, {"0 0", "2|0|1|0 0 0 0|1 0 0 1", "0 -"}, {"0 1|0 0", "2|0||0 0 0 1|1 0 0 0", "0 -|- 0"}, {"0 0", "3|0|0 2|0 0 0 1|2 0 0 0", "1 0 -"}, {"0 0", "3|0|0 2|0 0 0 1|2 0 0 2|2 0 0 0", "1 0 -"}, {"0 0|0 0 1", "1|0|0", "0|-"},
		{"1 0", "2|0|1|0 1 0 1|1 0 0 1|0 0 0 0", "0 -"}, {"1 1|1 1", "2|0|1|0 1 0 1|1 0 0 1|0 0 0 0", "0 -|0 -"}, {"0 0|1 0", "2|0|0|0 0 0 1", "1 0|- -"},
		// Initial states: none, several, and not the first one.
		{"0 0", "1||0|0 0 0 0", "-"}, {"0 0", "2||0 1|0 0 0 1|1 0 0 1", "- -"}, {"0 0", "3|0 2|0 2|0 0 0 1|2 0 0 0", "1 0 2"}, {"0 0", "3|2|0 2|0 0 0 1|2 0 0 0", "1 0 2"}, {"0 0", "3|0|0 2|0 0 0 1|2 0 0 0", "1 0 -"}, {"0 1|0 1", "2|0 1|1|0 0 0 0", "0 0|0 -"},
		// The letter of the state decides which edges there are.
		{"1 1|0 1", "2|0|0|0 1 1 1", "1 -|- 0"}, {"0 1|0 1", "2|0|0|0 1 1 1", "0 -|- -"}, {"1 1|0 1", "2|0|0|0 1 1 1|1 1 1 1", "1 -|- 0"}, {"1 1|0 0", "1|0|0|0 1 1 0", "1|0"}, {"3 1|1 2|0 0", "1|0|0|0 1 1 0|0 2 0 0", ""}, {"3 1|1 2|2 0", "1|0|0|0 1 1 0", "2|1|0"},
		// There is a trace.
		{"0 0", "1|0|0|0 0 0 0", ""}, {"0 1|0 0", "1|0|0|0 0 0 0", ""}, {"0 0", "2|0|0|0 0 0 1|1 0 0 0", ""}, {"0 0", "2|0|1|0 0 0 1|1 0 0 0", ""}, {"0 0", "2|0|1|0 0 0 0|0 0 0 1|1 0 0 1", ""}, {"0 1|0 2|0 1", "1|0|0|0 0 0 0", ""}, {"0 1|0 1", "2|0|1|0 0 0 1|1 0 0 1", ""}, {"1 1|0 1", "1|0|0|0 0 0 0", ""}, {"0 0", "3|0|1|0 0 0 1|1 0 0 2|2 0 0 1", ""}, {"0 0", "3|0 2|2|2 0 0 2", ""},
	} {
		g, a := graphFrom(c.graph), automatonOf(c.automaton)
		got, ok := impl.MakeCertificate(g, plainLabels(), a)
		if ok != (c.want != "") || !slices.Equal(got.Ranks, ranksFrom(c.want)) {
			t.Errorf("MakeCertificate of %s and %s = %v, %v, want %s", c.graph, c.automaton, got, ok, c.want)
		}
		checkMakeCertificate(t, g, plainLabels(), a)
	}
}

func TestMakeCertificateOfTheExample(t *testing.T) {
	labels := labelsOf(t, "(x<2)", "(x=1)", "(x=y)")
	for _, c := range []struct{ automaton, want string }{
		{"1|0|0|0 0 0 0", ""}, {"1|0|0|0 1 1 0", "3|2|1|0|-"}, {"1|0||0 0 0 0", "0|0|0|0|0"}, {"2|0|0|0 1 1 0|0 1 0 1|1 0 0 1", "4 -|3 -|2 -|1 -|- 0"}, {"2|0|1|0 0 0 0|0 2 2 1|1 2 2 1", "1 -|1 -|0 1|0 0|0 -"}, {"2|0|0|0 0 0 1|1 1 1 0", "2 -|- 1|1 -|- 0|- -"},
	} {
		a := automatonOf(c.automaton)
		if got, ok := impl.MakeCertificate(exampleGraph(), labels, a); ok != (c.want != "") || !slices.Equal(got.Ranks, ranksFrom(c.want)) {
			t.Errorf("MakeCertificate of the example and %s = %v, %v, want %s", c.automaton, got, ok, c.want)
		}
		checkMakeCertificate(t, exampleGraph(), labels, a)
	}
}

// descending returns automata in which no accepting state lies on a cycle:
// within each group of four states, edges lead back only between the others. An
// edge to the next state is there for most letters, so that ranks become large.
func descending(count int) []impl.Automaton {
	n := &numbers{last: 32}
	var list []impl.Automaton
	for range count {
		states := 2 + n.below(15)
		a := impl.Automaton{Initial: []int{0}, Accepting: make([]bool, states)}
		for i := range states {
			a.Accepting[i] = i%4 > 1 || n.below(4) == 0
			if i > 0 && n.below(4) == 0 {
				a.Initial = append(a.Initial, i)
			}
			if i > 0 && n.below(8) > 0 {
				a.Edges = append(a.Edges, edge(i-1, 0, 0, i))
			}
			for range 2 {
				care, to := n.below(4), n.below(states)
				if to > i || i/4 == to/4 && noneAccept(a, to, i) {
					a.Edges = append(a.Edges, edge(i, care, n.below(4)&care, to))
				}
			}
		}
		list = append(list, a)
	}
	return list
}

func noneAccept(a impl.Automaton, from, to int) bool {
	return !slices.Contains(a.Accepting[from:to+1], true)
}

func TestMakeCertificateOfSampleGraphs(t *testing.T) {
	labels := variedLabels(t)
	automata := slices.Concat(smallAutomata(), mixedAutomata(300), rareAutomata(60), descending(300))
	made, none, high, partly := 0, 0, 0, 0
	for i, g := range labelledGraphs(t) {
		for j := i % 61; j < len(automata); j += 61 {
			ranks, ok := checkMakeCertificate(t, g, labels[(i+j)%len(labels)], automata[j])
			made += bit(ok)
			none += bit(!ok)
			high += bit(ok && slices.Max(ranks) > 2)
			partly += bit(ok && slices.Contains(ranks, -1) && slices.Max(ranks) > 0)
		}
	}
	if made < 5000 || none < 2000 || high < 500 || partly < 1000 {
		t.Errorf("%d certificates, %d of them with ranks of more than 2 and %d with some nodes that have no rank, and %d products without one", made, high, partly, none)
	}
}

// All lists of ranks that are accepted for a small product have no rank below
// that of MakeCertificate, and this one is accepted.
func TestRanksAreTheLeastThatAreAccepted(t *testing.T) {
	labels := plainLabels()
	compared := 0
	for _, text := range []string{"0 0", "1 0", "0 1|0 0", "1 1|0 1", "0 0 1|1 1"} {
		g := graphFrom(text)
		for _, a := range append(smallAutomata(), descending(100)...) {
			nodes := len(g.States) * len(a.Accepting)
			c, ok := impl.MakeCertificate(g, labels, a)
			if !ok || nodes > 4 {
				continue
			}
			least := slices.Repeat([]int{5}, nodes)
			for _, ranks := range rankLists(nodes, -1, nodes) {
				if impl.CheckCertificate(g, labels, a, impl.Certificate{Ranks: ranks}) {
					for i, rank := range ranks {
						least[i] = min(least[i], rank)
					}
				}
			}
			if !slices.Equal(least, c.Ranks) {
				t.Fatalf("MakeCertificate of %s and %q = %v, but the least ranks are %v", text, automatonText(a), c, least)
			}
			compared++
		}
	}
	if compared < 300 {
		t.Errorf("only %d certificates", compared)
	}
}

// rankLists returns all lists of so many numbers within the bounds.
func rankLists(size, least, most int) [][]int {
	lists := [][]int{nil}
	for range size {
		var longer [][]int
		for _, list := range lists {
			for rank := least; rank <= most; rank++ {
				longer = append(longer, append(slices.Clone(list), rank))
			}
		}
		lists = longer
	}
	return lists
}

// stairs returns an automaton with which the nodes of the product with a ring
// are a path, if p is true in the last state of the ring only: there the
// automaton goes on to its next state, and elsewhere it stays.
func stairs(states int) impl.Automaton {
	a := impl.Automaton{Initial: []int{0}, Accepting: slices.Repeat([]bool{true}, states)}
	for i := range states {
		a.Edges = append(a.Edges, edge(i, 1, 0, i))
		if i > 0 {
			a.Edges = append(a.Edges, edge(i-1, 1, 1, i))
		}
	}
	return a
}

func markedRing(states int) impl.Graph {
	g := ring(states)
	g.States[states-1].Vals = []int{1, 0, 0}
	return g
}

// The largest product is one path of accepting nodes.
func TestMakeCertificateOfTheLongestPath(t *testing.T) {
	g, a := markedRing(60), stairs(64)
	c, ok := impl.MakeCertificate(g, plainLabels(), a)
	if !ok || len(c.Ranks) != 3840 || impl.CertificateRank(c) != 3839 || !impl.CheckCertificate(g, plainLabels(), a, c) {
		t.Fatalf("MakeCertificate = %v, %v", c, ok)
	}
	for i := range 60 {
		for q := range 64 {
			if want := 3839 - 60*q - i; c.Ranks[i*64+q] != want {
				t.Fatalf("the rank of the node of %d and %d is %d, want %d", i, q, c.Ranks[i*64+q], want)
			}
		}
	}
	for _, from := range []int{0, 1, 31, 63} {
		back := withEdges(a, append(a.Edges, edge(63, 1, 1, from))...)
		if c, ok := impl.MakeCertificate(g, plainLabels(), back); ok || !isZeroCertificate(c) {
			t.Errorf("MakeCertificate = %v, %v, though the last node leads back to state %d of the automaton", c, ok, from)
		}
	}
}

// Every other state of the automaton accepts, and the ranks fall only there.
func TestMakeCertificateOfALongPathOfMixedNodes(t *testing.T) {
	for first := range 2 {
		g, a := markedRing(60), stairs(64)
		for q := range a.Accepting {
			a.Accepting[q] = q%2 == first
		}
		want := make([]int, 60*64)
		rank := 0
		for step := 60*64 - 2; step >= 0; step-- {
			rank += bit(a.Accepting[step/60])
			want[step%60*64+step/60] = rank
		}
		if c, ok := impl.MakeCertificate(g, plainLabels(), a); !ok || !slices.Equal(c.Ranks, want) {
			t.Errorf("MakeCertificate = %v, %v", c, ok)
		}
	}
}

// A product with very many edges, in different orders. Only from the initial
// nodes there are edges to all others.
func TestMakeCertificateOfAProductOfManyEdges(t *testing.T) {
	for _, place := range []func(int) int{func(i int) int { return 63 - i }, func(i int) int { return i * 37 % 64 }} {
		a := impl.Automaton{Initial: ascendingList(64), Accepting: slices.Repeat([]bool{true}, 64)}
		for i := range 64 {
			for j := range i {
				a.Edges = append(a.Edges, edge(place(i), 0, 0, place(j)))
			}
		}
		c, ok := impl.MakeCertificate(complete(60), plainLabels(), a)
		if !ok || len(c.Ranks) != 3840 || !impl.CheckCertificate(complete(60), plainLabels(), a, c) {
			t.Fatalf("MakeCertificate = %v, %v", c, ok)
		}
		for node, rank := range c.Ranks {
			want := slices.IndexFunc(ascendingList(64), func(i int) bool { return place(i) == node%64 })
			if want == 63 && node >= 64 {
				want = -1
			}
			if rank != want {
				t.Fatalf("the rank of node %d is %d, want %d", node, rank, want)
			}
		}
	}
}

func TestMakeCertificateOfLargeProducts(t *testing.T) {
	n := &numbers{last: 33}
	graphs := []impl.Graph{withVals(n, ring(60)), withVals(n, complete(60)), graphOf(grid60(t)), graphOf(cycle60(t)), withVals(n, mixedGraph(n, 60, 3)), withVals(n, mixedGraph(n, 40, 5))}
	automata := append(largeAutomata(), descending(20)...)
	for _, size := range []int{10, 20, 40, 64} {
		for range 2 {
			a := mixedAutomaton(n, size, 3*size, 2)
			a.Edges = slices.DeleteFunc(a.Edges, func(e impl.Transition) bool { return a.Accepting[e.From] && e.To <= e.From })
			automata = append(automata, withInitial(a, 0))
		}
	}
	made, none, high := 0, 0, 0
	for i, g := range graphs {
		for j, a := range automata {
			if len(a.Edges) > 300 && (i+j)%4 > 0 {
				continue
			}
			ranks, ok := checkMakeCertificate(t, g, variedLabels(t)[(i+j)%7], a)
			made += bit(ok)
			none += bit(!ok)
			high += bit(ok && slices.Max(ranks) > 2)
		}
	}
	if made < 100 || none < 30 || high < 20 {
		t.Errorf("%d certificates, %d of them with ranks of more than 2, and %d products without one", made, high, none)
	}
}

func TestMakeCertificateOfInvalidArguments(t *testing.T) {
	forInvalidProducts(automatonOf("1|0|"), func(what string, g impl.Graph, labels []impl.Expr, a impl.Automaton) {
		if c, ok := impl.MakeCertificate(g, labels, a); ok || !isZeroCertificate(c) {
			t.Errorf("%s: MakeCertificate = %v, %v", what, c, ok)
		}
	})
}
