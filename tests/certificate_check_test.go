package tests

import (
	"fmt"
	"math"
	"slices"
	"testing"

	"loop.example/ltlcheck/impl"
)

// isCertificate is the chapter's definition, written down once more.
func isCertificate(g impl.Graph, letters []int, a impl.Automaton, ranks []int) bool {
	n := len(a.Accepting)
	if len(ranks) != len(g.States)*n {
		return false
	}
	for _, rank := range ranks {
		if rank < -1 || rank > 4000 {
			return false
		}
	}
	for _, q := range a.Initial {
		if ranks[q] == -1 {
			return false
		}
	}
	for node, successors := range productOf(g, letters, a) {
		for _, to := range successors {
			missing, rises := ranks[to] == -1, ranks[to] > ranks[node]
			if ranks[node] != -1 && (missing || rises || a.Accepting[node%n] && ranks[to] == ranks[node]) {
				return false
			}
		}
	}
	return true
}

func checkCertificate(t *testing.T, g impl.Graph, labels []impl.Expr, a impl.Automaton, ranks []int) bool {
	t.Helper()
	got := impl.CheckCertificate(g, labels, a, impl.Certificate{Ranks: ranks})
	if want := isCertificate(g, lettersOf(g, labels), a, ranks); got != want {
		t.Fatalf("CheckCertificate of %v with%s, %q and %v = %v", g, labelsText(labels), automatonText(a), ranks, got)
	}
	return got
}

// changed returns a list with another element at a place.
func changed(list []int, place, element int) []int {
	list = slices.Clone(list)
	list[place] = element
	return list
}

func TestCheckCertificate(t *testing.T) {
	const (
		path  = "3|0|0 2|0 0 0 1|1 0 0 2"
		cycle = "4|0|2|0 0 0 1|1 0 0 0|1 0 0 2|2 0 0 3"
		apart = "4|0|2|0 0 0 0|1 0 0 2|2 0 0 3"
	)
	for _, c := range []struct {
		graph, automaton string
		accepted         []string
		refused          []string
	}{
		// The ranks fall behind an accepting node, and do not rise behind the others.
		{"0 0", path, []string{"1 0 0", "2 0 0", "2 1 0", "2 1 1", "3 1 0", "4000 0 0", "4000 3999 3999", "4000 3999 0", "7 6 5"}, []string{"0 0 0", "1 1 0", "1 1 1", "1 0 1", "2 0 1", "2 1 2", "4000 4000 0", "4000 4000 4000", "0 1 2", "4000 3999 4000", "3999 4000 0"}},
		// An element that is missing, or that is one too many.
		{"0 0", path, nil, []string{"", "1", "1 0", "1 0 0 0", "1 0 0 -", "- 1 0 0", "1 0 0 0 0 0", "0"}},
		// An initial node or a successor without a rank.
		{"0 0", path, nil, []string{"- 0 0", "1 - 0", "1 0 -", "- - 0", "1 - -", "- - -", "0 - -", "- 0 -"}},
		// Elements that are no ranks.
		{"0 0", path, nil, []string{"1 0 -2", "1 -2 0", "-2 0 0", "4001 0 0", "4001 4000 0", "4002 4001 4001", "1 0 -3", "1000000 0 0", "2 1 -2", "-2 -2 -2"}},
		// A node without successors may have any rank, also if it is accepting.
		{"0 0", "1|0|0", []string{"0", "1", "3999", "4000"}, []string{"-", "-2", "4001", "", "0 0"}}, {"0 0", "1|0|", []string{"0", "1", "4000"}, []string{"-", "-2", "4001"}}, {"1 0", "1|0|0|0 1 0 0", []string{"0", "4000"}, []string{"-"}}, {"0 0", "1|0|0|0 1 0 0", nil, []string{"0", "4000", "-"}},
		// A node that is its own successor.
		{"0 0", "1|0|0|0 0 0 0", nil, []string{"0", "1", "4000", "-"}}, {"0 0", "1|0||0 0 0 0", []string{"0", "1", "4000"}, []string{"-", "4001"}}, {"0 0", "2|0|1|0 0 0 1|1 0 0 1", nil, []string{"0 0", "1 0", "0 -", "4000 4000", "4000 0"}},
		// Cycles with an accepting node and without one.
		{"0 0", "2|0|0|0 0 0 1|1 0 0 0", nil, []string{"0 0", "1 0", "0 1", "2 2", "4000 3999", "- -"}}, {"0 0", cycle, []string{"1 1 1 0", "5 5 5 4", "5 5 3 0", "4000 4000 4000 3999"}, []string{"0 0 0 0", "1 0 1 0", "0 1 1 0", "1 1 0 0", "1 1 2 0", "2 1 1 0", "1 2 1 0", "1 1 1 1", "1 1 1 -", "1 1 - 0"}},
		{"0 0", "2|0||0 0 0 1|1 0 0 0", []string{"0 0", "3 3"}, []string{"1 0", "0 1", "0 -", "- 0", "- -"}}, {"0 1|0 0", "1|0||0 0 0 0", []string{"0|0", "4000|4000"}, []string{"0|1", "1|0", "-|-", "0|-"}}, {"0 1|0 0", "1|0|0|0 0 0 0", nil, []string{"0|0", "1|0", "0|1"}},
		// Nodes without a rank, whose successors do not matter, and those that are not reachable and have ranks.
		{"0 0", apart, []string{"0 - - -", "0 - - 0", "0 - 1 0", "0 1 1 0", "9 - - 4000", "0 - 4000 3999", "0 4000 4000 0", "0 7 3 2"}, []string{"0 0 - -", "0 1 0 0", "0 1 2 0", "0 1 1 1", "0 - 0 0", "0 1 1 -", "0 - 1 -", "0 1 - 0", "0 4000 4000 4000", "- - - -", "- 1 1 0", "0 - - -2", "0 - - 4001", "0 4001 1 0"}},
		{"0 0", "2|0|1|0 0 0 0|1 0 0 1", []string{"0 -", "4000 -"}, []string{"0 0", "0 1", "1 0", "0 4000", "- -"}}, {"0 0|0 0 1", "1|0|", []string{"0|-", "0|0", "0|4000"}, []string{"-|0", "-|-"}}, {"0 0|0 0", "1|0||0 0 0 0", []string{"0|-", "0|0", "0|4000", "7|7"}, []string{"1|0", "-|0", "-|-", "4000|3999"}}, {"0 0|0 1", "1|0|0|0 1 1 0", []string{"0|-", "0|0"}, []string{"-|-"}}, {"0 0|1 1", "1|0|0|0 1 1 0", []string{"0|-", "4000|-"}, []string{"0|0", "0|1", "4000|4000"}},
		// Initial states: none, several, and not the first one.
		{"0 0", "1||0|0 0 0 0", []string{"-"}, []string{"0", "1", "-2", "4001", "", "- -"}}, {"0 1|0 0", "1||", []string{"-|-", "0|-", "-|0", "0|4000"}, []string{"", "-", "-|-|-"}}, {"0 0", "2|0 1|", []string{"0 0", "3 4000", "4000 3"}, []string{"0 -", "- 0", "- -"}}, {"0 0", "2|1|", []string{"- 0", "0 0", "4000 0"}, []string{"0 -", "- -"}}, {"0 0|0 0", "1|0|", []string{"0|-", "0|0"}, []string{"-|0"}},
		// The elements of a state of the graph stand together.
		{"0 1|0 1", "2|0|0|0 0 0 1", []string{"1 -|- 0", "1 -|1 0", "1 5|- 0", "1 4000|4000 0"}, []string{"1 0|- -", "1 -|0 -", "1 -|0 0", "0 -|- 0", "1 -|- 1", "1 -|- -"}}, {"0 1|0 1", "3|0|0|0 0 0 2", []string{"1 - -|- - 0"}, []string{"1 - -|0 - -", "1 - -|- 0 -", "1 - 0|- - -", "- - 0|1 - -"}},
		// Edges that cannot be taken with the letter of the state.
		{"1 0", "2|0|0|0 1 0 1", []string{"0 -", "0 0", "0 4000"}, []string{"- 0"}}, {"0 0", "2|0|0|0 1 0 1", []string{"1 0"}, []string{"0 -", "0 0", "0 4000"}}, {"1 1|0 1", "2|0|0|0 1 1 1|1 1 1 1", []string{"1 -|- 0", "1 -|0 0", "1 -|4000 0"}, []string{"0 -|- 0", "1 -|- -", "1 0|- -"}}, {"3 0", "2|0||0 1 1 0|0 2 0 1", []string{"0 -"}, []string{"- 0"}}, {"1 0", "2|0||0 1 1 0|0 2 0 1", []string{"0 0", "1 0"}, []string{"0 -", "0 1"}},
		// One edge of several is enough.
		{"0 0", "3|0|0|0 0 0 1|0 0 0 2", []string{"1 0 0", "2 1 0", "2 0 1"}, []string{"1 1 0", "1 0 1", "1 0 -", "1 - 0", "0 0 0"}}, {"0 1 2|0 1|0 2", "1|0||0 1 1 0", []string{"0|-|-"}, []string{"-|0|0"}}, {"0 1 2|1 1|1 2", "1|0|0|0 1 0 0", []string{"1|0|0", "2|1|0", "2|0|1"}, []string{"1|0|1", "1|1|0", "1|-|0", "1|0|-", "0|0|0"}},
	} {
		g, a := graphFrom(c.graph), automatonOf(c.automaton)
		for _, text := range c.accepted {
			if !impl.CheckCertificate(g, plainLabels(), a, certificateFrom(text)) {
				t.Errorf("CheckCertificate of %s, %s and %s = false", c.graph, c.automaton, text)
			}
			checkCertificate(t, g, plainLabels(), a, ranksFrom(text))
		}
		for _, text := range c.refused {
			if impl.CheckCertificate(g, plainLabels(), a, certificateFrom(text)) {
				t.Errorf("CheckCertificate of %s, %s and %s = true", c.graph, c.automaton, text)
			}
			checkCertificate(t, g, plainLabels(), a, ranksFrom(text))
		}
	}
}

// Elements of all kinds at each place of a list that is accepted.
func TestCheckCertificateOfChangedElements(t *testing.T) {
	g, a := graphFrom("0 1|0 1"), automatonOf("3|0|0|0 0 0 1|1 0 0 2|2 0 0 2")
	accepted := ranksFrom("1 - -|- 0 0")
	if !checkCertificate(t, g, plainLabels(), a, accepted) {
		t.Fatal("the list is not accepted")
	}
	for place := range accepted {
		for _, element := range []int{math.MinInt, math.MinInt + 1, -4001, -4000, -3, -2, -1, 0, 1, 2, 3999, 4000, 4001, 4002, 1 << 32, 1<<32 - 1, 1 << 40, math.MaxInt - 1, math.MaxInt} {
			got := checkCertificate(t, g, plainLabels(), a, changed(accepted, place, element))
			if got && (element < -1 || element > 4000) {
				t.Errorf("an element of %d is accepted", element)
			}
		}
	}
	for size := range 20 {
		for _, element := range []int{-1, 0, 4000} {
			if list := slices.Repeat([]int{element}, size); checkCertificate(t, g, plainLabels(), a, list) {
				t.Errorf("%v is accepted", list)
			}
		}
		if got := checkCertificate(t, g, plainLabels(), a, append(slices.Clone(accepted), make([]int, 20)...)[:size]); got != (size == 6) {
			t.Errorf("CheckCertificate of %d elements = %v", size, got)
		}
	}
	checkCertificate(t, g, plainLabels(), a, make([]int, 10000000))
}

// A list is accepted exactly if it has one element for each node.
func TestCheckCertificateCountsTheNodes(t *testing.T) {
	for _, states := range []int{1, 2, 3, 59, 60} {
		for _, size := range []int{1, 2, 5, 63, 64} {
			nodes := states * size
			a := impl.Automaton{Initial: ascendingList(size), Accepting: make([]bool, size)}
			for _, elements := range []int{0, 1, nodes - 1, nodes, nodes + 1, 2 * nodes, nodes + states, nodes + size, nodes - size} {
				for _, rank := range []int{0, 4000} {
					c := impl.Certificate{Ranks: slices.Repeat([]int{rank}, elements)}
					if got := impl.CheckCertificate(ring(states), plainLabels(), a, c); got != (elements == nodes) {
						t.Errorf("CheckCertificate for %d times %d nodes and %d elements = %v", states, size, elements, got)
					}
				}
			}
		}
	}
}

// All lists of ranks of a small range, for small products.
func TestCheckCertificateOfAllShortLists(t *testing.T) {
	accepted, refused := 0, 0
	for _, text := range []string{"0 0", "1 0", "0 1|0 0", "1 1|0 1", "1 0 1|0 1", "0 0|1 1"} {
		g := graphFrom(text)
		for _, a := range append(smallAutomata(), automatonOf("2|0|0 1|0 0 0 1"), automatonOf("2|0|0|0 1 0 1|1 0 0 1")) {
			nodes := len(g.States) * len(a.Accepting)
			if nodes > 4 {
				continue
			}
			_, exists := leastRanks(g, lettersOf(g, plainLabels()), a)
			some := false
			for _, ranks := range rankLists(nodes, -2, 2) {
				some = checkCertificate(t, g, plainLabels(), a, ranks) || some
			}
			if some && !exists {
				t.Errorf("a list is accepted for %s and %q, though there is a trace", text, automatonText(a))
			}
			accepted += bit(some)
			refused += bit(!some)
		}
	}
	if accepted < 500 || refused < 100 {
		t.Errorf("a list is accepted for %d products, and none for %d", accepted, refused)
	}
}

// nearbyLists returns the lists that differ from one in few elements.
func nearbyLists(n *numbers, ranks []int, count int) [][]int {
	lists := [][]int{ranks}
	for range count {
		list := slices.Clone(ranks)
		for range 1 + n.below(2) {
			place := n.below(len(list))
			list[place] = []int{-2, -1, 0, list[place] - 1, list[place] + 1, list[place] + 2, 4000, 4001}[n.below(8)]
		}
		lists = append(lists, list)
	}
	return lists
}

// raised returns ranks that are accepted like the given ones and larger.
func raised(ranks []int, factor, summand int) []int {
	list := slices.Clone(ranks)
	for i, rank := range list {
		if rank >= 0 {
			list[i] = min(rank*factor+summand, 4000)
		}
	}
	return list
}

func TestCheckCertificateOfSampleGraphs(t *testing.T) {
	n := &numbers{last: 34}
	labels := variedLabels(t)
	automata := slices.Concat(smallAutomata(), mixedAutomata(300), rareAutomata(60), descending(300))
	accepted, refused := 0, 0
	for i, g := range labelledGraphs(t) {
		for j := i % 151; j < len(automata); j += 151 {
			l, a := labels[(i+j)%len(labels)], automata[j]
			letters := lettersOf(g, l)
			ranks, exists := leastRanks(g, letters, a)
			if !exists {
				// After some passes the ranks are nearly those of a certificate.
				ranks = ranksAfter(g, letters, a, 1+n.below(9))
			}
			lists := nearbyLists(n, ranks, 6)
			lists = append(lists, nearbyLists(n, raised(ranks, 2, n.below(3)), 3)...)
			lists = append(lists, append(slices.Clone(ranks), -1), ranks[1:], nil)
			for k, list := range lists {
				got := checkCertificate(t, g, l, a, list)
				if got && !exists || !got && exists && k == 0 {
					t.Fatalf("CheckCertificate of %v with%s, %q and %v = %v, though a certificate exists: %v", g, labelsText(l), automatonText(a), list, got, exists)
				}
				accepted += bit(got)
				refused += bit(!got)
			}
		}
	}
	if accepted < 20000 || refused < 20000 {
		t.Errorf("%d lists are accepted, and %d are not", accepted, refused)
	}
}

func TestCheckCertificateOfLargeProducts(t *testing.T) {
	n := &numbers{last: 35}
	long, steps := markedRing(60), stairs(64)
	c, _ := impl.MakeCertificate(long, plainLabels(), steps)
	for _, list := range [][]int{c.Ranks, raised(c.Ranks, 1, 161), raised(c.Ranks, 1, 162), raised(c.Ranks, 2, 0), raised(c.Ranks, 0, 4000)} {
		if got, want := checkCertificate(t, long, plainLabels(), steps, list), slices.Max(list) == 3839 || slices.Min(list) == 161; got != want {
			t.Errorf("CheckCertificate of ranks from %d to %d = %v", slices.Min(list), slices.Max(list), got)
		}
	}
	for range 30 {
		place := n.below(len(c.Ranks) - 1)
		for _, list := range [][]int{changed(c.Ranks, place, c.Ranks[place]-1), changed(c.Ranks, place, c.Ranks[place]+1), changed(c.Ranks, place, -1)} {
			want := c.Ranks[place] == 3839 && list[place] == 3840
			if checkCertificate(t, long, plainLabels(), steps, list) != want {
				t.Errorf("CheckCertificate with %d at place %d = %v", list[place], place, !want)
			}
		}
	}
	for i, g := range []impl.Graph{withVals(n, complete(60)), graphOf(grid60(t)), withVals(n, mixedGraph(n, 60, 4))} {
		for _, a := range descending(20) {
			l := variedLabels(t)[i]
			c, ok := impl.MakeCertificate(g, l, a)
			if !ok {
				t.Fatalf("no certificate of %v and %q", g, automatonText(a))
			}
			for _, list := range nearbyLists(n, c.Ranks, 4) {
				checkCertificate(t, g, l, a, list)
			}
		}
	}
}

func TestCheckCertificateOfInvalidArguments(t *testing.T) {
	forInvalidProducts(automatonOf("1|0|"), func(what string, g impl.Graph, labels []impl.Expr, a impl.Automaton) {
		for _, nodes := range []int{0, 1, len(g.States) * len(a.Accepting) % 100000, len(g.States), len(a.Accepting)} {
			for _, rank := range []int{-1, 0, 1} {
				c := impl.Certificate{Ranks: slices.Repeat([]int{rank}, nodes)}
				if impl.CheckCertificate(g, labels, a, c) {
					t.Errorf("%s: CheckCertificate of %d elements = true", what, nodes)
				}
				if c, ok := impl.ReduceCertificate(g, labels, a, c); ok || !isZeroCertificate(c) {
					t.Errorf("%s: ReduceCertificate of %d elements = %v, %v", what, nodes, c, ok)
				}
			}
		}
	})
}

func TestReduceCertificate(t *testing.T) {
	const apart = "4|0|2|0 0 0 0|1 0 0 2|2 0 0 3"
	for _, c := range []struct{ graph, automaton, ranks, want string }{
		// Ranks of nodes that are not reachable.
		{"0 0", apart, "0 - - -", "0 - - -"}, {"0 0", apart, "0 1 1 0", "0 - - -"}, {"0 0", apart, "9 - - 4000", "9 - - -"}, {"0 0", apart, "3 7 3 2", "3 - - -"}, {"0 0|0 0", "1|0||0 0 0 0", "0|0", "0|-"}, {"0 0|0 0", "1|0||0 0 0 0", "3|4000", "3|-"}, {"0 0", "2|1|", "4 5", "- 5"},
		{"0 1|0 1", "2|0|0|0 0 0 1", "1 5|7 0", "1 -|- 0"}, {"1 0", "2|0|0|0 1 0 1", "0 4000", "0 -"}, {"0 1|0 0", "2|0||0 0 0 1|1 0 0 0", "2 3|3 2", "2 -|- 2"}, {"0 0", "2||", "0 4000", "- -"}, {"0 0", "2||", "- -", "- -"},
		// The others stay, also if they are not the least ones.
		{"0 0", "3|0|0 2|0 0 0 1|1 0 0 2", "1 0 0", "1 0 0"}, {"0 0", "3|0|0 2|0 0 0 1|1 0 0 2", "4000 17 3", "4000 17 3"}, {"0 0", "1|0|0", "4000", "4000"}, {"0 0", "2|0||0 0 0 1|1 0 0 0", "6 6", "6 6"},
		// What is not accepted.
		{"0 0", apart, "0 1 1 1", ""}, {"0 0", apart, "0 1 1 -", ""}, {"0 0", apart, "0 - 0 0", ""}, {"0 0", apart, "0 - - -2", ""}, {"0 0", apart, "0 - - 4001", ""}, {"0 0", apart, "- - - -", ""}, {"0 0", apart, "0 - -", ""}, {"0 0", apart, "0 - - - -", ""}, {"0 0", apart, "", ""}, {"0 0", "2|0|1|0 0 0 0|1 0 0 1", "0 0", ""},
		{"0 0", "3|0|0 2|0 0 0 1|1 0 0 2", "0 0 0", ""}, {"0 0", "3|0|0 2|0 0 0 1|1 0 0 2", "1 0 1", ""}, {"0 0", "1|0|0|0 0 0 0", "0", ""}, {"0 0", "1|0|0", "-", ""}, {"0 0|0 0", "1|0||0 0 0 0", "0|1|0", ""}, {"0 0|0 0", "1|0||0 0 0 0", "1|0", ""},
	} {
		g, a := graphFrom(c.graph), automatonOf(c.automaton)
		got, ok := impl.ReduceCertificate(g, plainLabels(), a, certificateFrom(c.ranks))
		if ok != (c.want != "") || !slices.Equal(got.Ranks, ranksFrom(c.want)) {
			t.Errorf("ReduceCertificate of %s, %s and %s = %v, %v, want %s", c.graph, c.automaton, c.ranks, got, ok, c.want)
		}
	}
}

func onlyReached(ranks []int, reached []bool) []int {
	list := slices.Clone(ranks)
	for node := range list {
		if !reached[node] {
			list[node] = -1
		}
	}
	return list
}

// Certificates with ranks of nodes that are not reachable, and lists that are not
// accepted.
func TestReduceCertificateOfSampleGraphs(t *testing.T) {
	n := &numbers{last: 36}
	labels := variedLabels(t)
	automata := slices.Concat(smallAutomata(), mixedAutomata(300), descending(300))
	reduced, same, refused := 0, 0, 0
	for i, g := range labelledGraphs(t) {
		for j := i % 151; j < len(automata); j += 151 {
			l, a := labels[(i+j)%len(labels)], automata[j]
			letters := lettersOf(g, l)
			reached := reachedIn(g, letters, a)
			everywhere := a
			everywhere.Initial = ascendingList(len(a.Accepting))
			ranks, exists := leastRanks(g, letters, everywhere)
			if !exists {
				ranks, _ = leastRanks(g, letters, a)
			}
			if len(ranks) == 0 {
				ranks = ranksAfter(g, letters, a, 3)
			}
			for _, list := range nearbyLists(n, raised(ranks, 1+n.below(2), n.below(3)), 4) {
				var want []int
				accepted := isCertificate(g, letters, a, list)
				if accepted {
					want = onlyReached(list, reached)
				}
				got, ok := impl.ReduceCertificate(g, l, a, impl.Certificate{Ranks: list})
				if ok != accepted || !slices.Equal(got.Ranks, want) {
					t.Fatalf("ReduceCertificate of %v with%s, %q and %v = %v, %v, want %v", g, labelsText(l), automatonText(a), list, got, ok, want)
				}
				if ok && !checkCertificate(t, g, l, a, got.Ranks) {
					t.Fatalf("ReduceCertificate of %v with%s, %q and %v = %v, which is not accepted", g, labelsText(l), automatonText(a), list, got)
				}
				reduced += bit(ok && !slices.Equal(got.Ranks, list))
				same += bit(ok && slices.Equal(got.Ranks, list))
				refused += bit(!ok)
			}
		}
	}
	if reduced < 3000 || same < 3000 || refused < 3000 {
		t.Errorf("%d certificates are reduced, %d stay, and %d lists are not accepted", reduced, same, refused)
	}
}

func TestCertificateRank(t *testing.T) {
	for _, c := range []struct {
		ranks []int
		want  int
	}{
		{nil, -1}, {[]int{}, -1}, {[]int{-1}, -1}, {[]int{-1, -1, -1}, -1}, {[]int{-2}, -1}, {[]int{-2, -7}, -1}, {[]int{math.MinInt}, -1}, {[]int{-5, -1}, -1}, {[]int{-1, -5}, -1}, {[]int{-5, -2, -3}, -1},
		{[]int{0}, 0}, {[]int{1}, 1}, {[]int{4000}, 4000}, {[]int{1, 0, 0}, 1}, {[]int{0, 0, 1}, 1}, {[]int{0, 3, 1}, 3}, {[]int{-1, 0}, 0}, {[]int{0, -1}, 0}, {[]int{-2, 0, -2}, 0}, {[]int{5, -1, 4, -2}, 5}, {[]int{2, 2, 2}, 2},
		{[]int{4001}, 4001}, {[]int{4001, 4000}, 4001}, {[]int{0, 5000, 7}, 5000}, {[]int{1 << 40, 3}, 1 << 40}, {[]int{math.MaxInt}, math.MaxInt}, {[]int{math.MinInt, math.MaxInt}, math.MaxInt}, {[]int{math.MaxInt, math.MaxInt - 1}, math.MaxInt},
		{make([]int, 4001), 0}, {append(make([]int, 1000000), 9), 9}, {slices.Repeat([]int{-1}, 1000000), -1}, {slices.Repeat([]int{-9}, 4001), -1},
	} {
		if got := impl.CertificateRank(impl.Certificate{Ranks: c.ranks}); got != c.want {
			t.Errorf("CertificateRank of %s = %d, want %d", fmt.Sprintf("%.100v", c.ranks), got, c.want)
		}
	}
}

// The rank of each list of up to four elements.
func TestCertificateRankOfShortLists(t *testing.T) {
	for size := range 5 {
		for _, list := range rankLists(size, -3, 3) {
			if got, want := impl.CertificateRank(impl.Certificate{Ranks: list}), slices.Max(append([]int{-1}, list...)); got != want {
				t.Fatalf("CertificateRank of %v = %d, want %d", list, got, want)
			}
		}
	}
}
