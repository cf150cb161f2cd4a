package tests

import (
	"slices"
	"testing"

	"loop.example/ltlcheck/impl"
)

// agree says whether the Values of two edges agree on the atoms that are in
// both Cares.
func agree(e, f impl.Transition) bool {
	for i := range 3 {
		if e.Care>>i&1 == 1 && f.Care>>i&1 == 1 && e.Value>>i&1 != f.Value>>i&1 {
			return false
		}
	}
	return true
}

// union returns the union of two sets of atoms.
func union(a, b int) int {
	set := 0
	for i := range 3 {
		if a>>i&1 == 1 || b>>i&1 == 1 {
			set += 1 << i
		}
	}
	return set
}

// intersected is the chapter's construction, written down once more. It has no
// limits, but it ends as soon as it is far beyond them.
func intersected(a, b impl.Automaton) impl.Automaton {
	type triple struct{ a, b, phase int }
	var found []triple
	for _, i := range a.Initial {
		for _, j := range b.Initial {
			found = append(found, triple{i, j, 0})
		}
	}
	r := impl.Automaton{Initial: ascendingList(len(found))}
	for i := 0; i < len(found) && len(found) < 200 && len(r.Edges) < 10000; i++ {
		from := found[i]
		r.Accepting = append(r.Accepting, from.phase == 1 && b.Accepting[from.b])
		phase := from.phase
		if from.phase == 0 && a.Accepting[from.a] {
			phase = 1
		}
		if from.phase == 1 && b.Accepting[from.b] {
			phase = 0
		}
		for _, e := range a.Edges {
			for _, f := range b.Edges {
				if e.From != from.a || f.From != from.b || !agree(e, f) {
					continue
				}
				next := triple{e.To, f.To, phase}
				if !slices.Contains(found, next) {
					found = append(found, next)
				}
				r.Edges = append(r.Edges, edge(i, union(e.Care, f.Care), union(e.Value, f.Value), slices.Index(found, next)))
			}
		}
	}
	if len(found) == 0 {
		r.Accepting = []bool{false}
	}
	for len(r.Accepting) < len(found) {
		r.Accepting = append(r.Accepting, false)
	}
	return r
}

// checkIntersection checks the construction, and says whether there is one.
func checkIntersection(t *testing.T, a, b impl.Automaton) (impl.Automaton, bool) {
	t.Helper()
	got, ok := impl.IntersectAutomata(a, b)
	want := intersected(a, b)
	small := len(want.Accepting) <= 64 && len(want.Edges) <= 2048
	if !small {
		want = impl.Automaton{}
	}
	if ok != small || !equalAutomata(got, want) || ok && !impl.AutomatonValid(got) {
		t.Fatalf("IntersectAutomata of %q and %q = %v, %v, want %v, %v", automatonText(a), automatonText(b), got, ok, want, small)
	}
	return got, ok
}

// united is the chapter's text about the union, written down once more.
func united(a, b impl.Automaton) impl.Automaton {
	n := len(a.Accepting)
	r := copyAutomaton(a)
	r.Accepting = append(r.Accepting, b.Accepting...)
	for _, state := range b.Initial {
		r.Initial = append(r.Initial, n+state)
	}
	for _, e := range b.Edges {
		r.Edges = append(r.Edges, edge(n+e.From, e.Care, e.Value, n+e.To))
	}
	return r
}

func checkUnion(t *testing.T, a, b impl.Automaton) (impl.Automaton, bool) {
	t.Helper()
	got, ok := impl.UniteAutomata(a, b)
	want := united(a, b)
	small := len(want.Accepting) <= 64 && len(want.Edges) <= 2048
	if !small {
		want = impl.Automaton{}
	}
	if ok != small || !equalAutomata(got, want) || ok && !impl.AutomatonValid(got) {
		t.Fatalf("UniteAutomata of %q and %q = %v, %v, want %v, %v", automatonText(a), automatonText(b), got, ok, want, small)
	}
	return got, ok
}

// Automata that are written down by hand, from the text of the chapter.
func TestIntersectAutomata(t *testing.T) {
	const all, infinitelyP, infinitelyQ = "1|0|0|0 0 0 0", "2|0|1|0 1 0 0|0 1 1 1|1 1 0 0|1 1 1 1", "2|0|1|0 2 0 0|0 2 2 1|1 2 0 0|1 2 2 1"
	for _, c := range []struct{ a, b, want string }{
		// The triples 0 0 0 and 0 0 1.
		{all, all, "2|0|1|0 0 0 1|1 0 0 0"},
		// A state of a that does not accept keeps phase 0, one of b phase 1.
		{"1|0||0 0 0 0", all, "1|0||0 0 0 0"}, {all, "1|0||0 0 0 0", "2|0||0 0 0 1|1 0 0 1"}, {"1|0||0 0 0 0", "1|0||0 0 0 0", "1|0||0 0 0 0"},
		// Without an initial state.
		{"1||", all, "1||"}, {all, "1||", "1||"}, {"1||", "1||", "1||"}, {"3||0 1 2|0 0 0 1|1 0 0 2|2 0 0 0", "2|0 1|0|0 0 0 1", "1||"},
		// Without edges; an accepting state of a alone does not accept.
		{"1|0|0", "1|0|0", "1|0|"}, {"1|0|0", all, "1|0|"}, {all, "1|0|0", "1|0|"}, {"2|0 1|0 1", "2|0 1|0 1", "4|0 1 2 3|"},
		// The Values agree on the atoms that are in both Cares, or they do not.
		{"1|0||0 1 1 0", "1|0||0 2 2 0", "1|0||0 3 3 0"}, {"1|0||0 1 1 0", "1|0||0 2 0 0", "1|0||0 3 1 0"}, {"1|0||0 1 1 0", "1|0||0 1 1 0", "1|0||0 1 1 0"}, {"1|0||0 1 1 0", "1|0||0 1 0 0", "1|0|"},
		{"1|0||0 3 1 0", "1|0||0 6 4 0", "1|0||0 7 5 0"}, {"1|0||0 3 1 0", "1|0||0 6 6 0", "1|0|"}, {"1|0||0 3 3 0", "1|0||0 6 6 0", "1|0||0 7 7 0"}, {"1|0||0 5 4 0", "1|0||0 5 1 0", "1|0|"}, {"1|0||0 0 0 0", "1|0||0 7 5 0", "1|0||0 7 5 0"},
		// All pairs of edges, by the edge of a and then by that of b; equal ones stay.
		{"1|0||0 1 1 0|0 1 0 0", "1|0||0 2 2 0|0 2 0 0|0 0 0 0", "1|0||0 3 3 0|0 3 1 0|0 1 1 0|0 3 2 0|0 3 0 0|0 1 0 0"}, {"1|0||0 1 0 0|0 1 1 0", "1|0||0 1 1 0|0 1 0 0", "1|0||0 1 0 0|0 1 1 0"},
		{"1|0||0 0 0 0|0 0 0 0", "1|0||0 4 4 0|0 4 4 0", "1|0||0 4 4 0|0 4 4 0|0 4 4 0|0 4 4 0"},
		// All pairs of initial states, by the state of a and then by that of b: 0 0, 0 2, 1 0 and 1 2; then 1 1.
		{"2|0 1||0 1 1 1", "3|0 2||0 2 2 1|2 2 0 0", "5|0 1 2 3||0 3 3 4|1 3 1 2"},
		// The triples 0 0 0, 1 0 0 and 0 0 1.
		{"2|0|1|0 1 1 1|1 0 0 0", "1|0|0|0 2 2 0|0 0 0 0", "3|0|2|0 3 3 1|0 1 1 1|1 2 2 2|1 0 0 2|2 3 3 1|2 1 1 1"},
		// The triples 0 0 0, 0 1 0, 1 0 0, 1 1 0, and with phase 1 0 0, 0 1, 1 0 and 1 1, the last of which accepts as well as the sixth.
		{infinitelyP, infinitelyQ, "8|0|5 7|0 3 0 0|0 3 2 1|0 3 1 2|0 3 3 3|1 3 0 0|1 3 2 1|1 3 1 2|1 3 3 3|2 3 0 4|2 3 2 5|2 3 1 6|2 3 3 7|3 3 0 4|3 3 2 5|3 3 1 6|3 3 3 7|" +
			"4 3 0 4|4 3 2 5|4 3 1 6|4 3 3 7|5 3 0 0|5 3 2 1|5 3 1 2|5 3 3 3|6 3 0 4|6 3 2 5|6 3 1 6|6 3 3 7|7 3 0 0|7 3 2 1|7 3 1 2|7 3 3 3"},
		// Edges of other states do not matter, in whatever order they stand.
		{"3|1|1|2 0 0 0|1 4 4 1|0 0 0 1", "2|1|1|0 0 0 1|1 1 1 1|0 0 0 0", "2|0|1|0 5 5 1|1 5 5 0"},
	} {
		a, b := automatonOf(c.a), automatonOf(c.b)
		if got, ok := impl.IntersectAutomata(a, b); !ok || !equalAutomata(got, automatonOf(c.want)) {
			t.Errorf("IntersectAutomata of %s and %s = %v, %v, want %s", c.a, c.b, got, ok, c.want)
		}
		checkIntersection(t, a, b)
	}
}

func TestUniteAutomata(t *testing.T) {
	for _, c := range []struct{ a, b, want string }{
		{"1|0|0|0 0 0 0", "1|0|0|0 0 0 0", "2|0 1|0 1|0 0 0 0|1 0 0 1"}, {"1||", "1||", "2||"}, {"1||", "1|0|0|0 7 5 0", "2|1|1|1 7 5 1"}, {"1|0|0|0 7 5 0", "1||", "2|0|0|0 7 5 0"},
		{"2|0 1|1|1 1 1 0|0 3 2 1", "3|1 2|0|2 4 4 0|0 6 0 1", "5|0 1 3 4|1 2|1 1 1 0|0 3 2 1|4 4 4 2|2 6 0 3"}, {"3|1 2|0|2 4 4 0|0 6 0 1", "2|0 1|1|1 1 1 0|0 3 2 1", "5|1 2 3 4|0 4|2 4 4 0|0 6 0 1|4 1 1 3|3 3 2 4"},
		{"1|0||0 1 1 0|0 1 1 0", "1|0||0 1 1 0", "2|0 1||0 1 1 0|0 1 1 0|1 1 1 1"}, {"3|0|2", "2|1|0 1", "5|0 4|2 3 4"},
	} {
		a, b := automatonOf(c.a), automatonOf(c.b)
		if got, ok := impl.UniteAutomata(a, b); !ok || !equalAutomata(got, automatonOf(c.want)) {
			t.Errorf("UniteAutomata of %s and %s = %v, %v, want %s", c.a, c.b, got, ok, c.want)
		}
		checkUnion(t, a, b)
	}
}

// edgeless returns an automaton all of whose states are initial.
func edgeless(states int) impl.Automaton {
	return impl.Automaton{Initial: ascendingList(states), Accepting: make([]bool, states)}
}

// withPath returns a with a path of so many new states after state 0.
func withPath(a impl.Automaton, states int) impl.Automaton {
	r := copyAutomaton(a)
	last := 0
	for range states {
		r.Edges = append(r.Edges, edge(last, 0, 0, len(r.Accepting)))
		last = len(r.Accepting)
		r.Accepting = append(r.Accepting, false)
	}
	return r
}

func TestIntersectionsAtTheLimits(t *testing.T) {
	accepting := func(a impl.Automaton) impl.Automaton {
		a.Accepting = slices.Repeat([]bool{true}, len(a.Accepting))
		return a
	}
	free := func(states int) impl.Automaton {
		a := wheel(states)
		for i := range a.Edges {
			a.Edges[i].Care, a.Edges[i].Value = 0, 0
		}
		return a
	}
	ones, zeros := loops(2048), loops(2048)
	for i := range 2048 {
		ones.Edges[i], zeros.Edges[i] = edge(0, 1, 1, 0), edge(0, 1, 0, 0)
	}
	for _, c := range []struct {
		name string
		a, b impl.Automaton
		// states is 0 if the result would not be valid.
		states, edges int
	}{
		{"cycles of 64 and 1", free(64), free(1), 64, 64},
		{"cycles of 1 and 64", free(1), free(64), 64, 64},
		{"cycles of 64 and 64", free(64), free(64), 64, 64},
		{"cycles of 7 and 9", free(7), free(9), 63, 63},
		{"cycles of 5 and 13", free(5), free(13), 0, 0},
		{"cycles of 13 and 5", free(13), free(5), 0, 0},
		{"cycles of 64 and 63", free(64), free(63), 0, 0},
		{"accepting cycles of 32", accepting(free(32)), accepting(free(32)), 32, 32},
		{"accepting cycles of 31", accepting(free(31)), accepting(free(31)), 62, 62},
		{"accepting cycles of 33", accepting(free(33)), accepting(free(33)), 0, 0},
		{"a cycle of 63 before phase 1", accepting(free(1)), free(63), 64, 64},
		{"a cycle of 64 before phase 1", accepting(free(1)), free(64), 0, 0},
		{"cycles of 64 whose letters are the same", wheel(64), wheel(64), 64, 64},
		{"cycles that only begin alike", wheel(64), wheel(63), 64, 63},
		{"64 pairs of initial states", edgeless(8), edgeless(8), 64, 0},
		{"65 pairs of initial states", edgeless(5), edgeless(13), 0, 0},
		{"4096 pairs of initial states", edgeless(64), edgeless(64), 0, 0},
		{"64 and 1 initial states", edgeless(64), edgeless(1), 64, 0},
		{"64 and no initial states", edgeless(64), withInitial(edgeless(64)), 1, 0},
		{"64 states with phase 0", edgeless(1), withEdges(edgeless(64), loops(1984).Edges...), 64, 0},
		{"2048 edges from 64 and 32", loops(64), loops(32), 1, 2048},
		{"2048 edges from 2048 and 1", loops(2048), loops(1), 1, 2048},
		{"2048 edges from 1 and 2048", loops(1), loops(2048), 1, 2048},
		{"2049 edges from 683 and 3", loops(683), loops(3), 0, 0},
		{"2049 edges from 3 and 683", loops(3), loops(683), 0, 0},
		{"4096 edges from 2048 and 2", loops(2048), loops(2), 0, 0},
		{"four million edges", loops(2048), loops(2048), 0, 0},
		{"four million pairs that do not agree", ones, zeros, 1, 0},
		{"2048 edges in two phases", accepting(loops(32)), accepting(loops(32)), 2, 2048},
		{"2050 edges in two phases", accepting(loops(25)), accepting(loops(41)), 0, 0},
		{"2048 edges that are not reachable", withInitial(withEdges(edgeless(2), loops(2048).Edges...), 1), loops(2048), 1, 0},
		{"2048 edges and 64 states", withPath(loops(1985), 63), loops(1), 64, 2048},
		{"2048 edges and 32 states", withPath(loops(33), 31), loops(32), 32, 2048},
		{"2049 edges and 31 states", withPath(loops(653), 30), loops(3), 0, 0},
		{"64 states and a branch", withPath(loops(1), 63), withPath(loops(1), 1), 0, 0},
	} {
		got, ok := checkIntersection(t, c.a, c.b)
		if ok != (c.states > 0) || len(got.Accepting) != c.states || len(got.Edges) != c.edges {
			t.Errorf("%s: IntersectAutomata has %d states and %d edges, %v", c.name, len(got.Accepting), len(got.Edges), ok)
		}
	}
}

func TestUnionsAtTheLimits(t *testing.T) {
	for _, c := range []struct {
		name string
		a, b impl.Automaton
		want bool
	}{
		{"32 and 32 states", wheel(32), wheel(32), true}, {"63 and 1 states", wheel(63), wheel(1), true}, {"1 and 63 states", wheel(1), wheel(63), true}, {"33 and 32 states", wheel(33), wheel(32), false},
		{"64 and 1 states", wheel(64), wheel(1), false}, {"1 and 64 states", wheel(1), wheel(64), false}, {"64 and 64 states", wheel(64), wheel(64), false}, {"32 and 32 initial states", edgeless(32), edgeless(32), true},
		{"32 and 33 initial states", edgeless(32), edgeless(33), false}, {"1024 and 1024 edges", loops(1024), loops(1024), true}, {"1024 and 1025 edges", loops(1024), loops(1025), false}, {"2048 and no edges", loops(2048), loops(0), true},
		{"no and 2048 edges", loops(0), loops(2048), true}, {"2048 edges and 1", loops(2048), loops(1), false}, {"1 edge and 2048", loops(1), loops(2048), false}, {"2048 and 2048 edges", loops(2048), loops(2048), false},
		{"2048 edges of 64 states", withEdges(wheel(63), loops(1984).Edges...), loops(1), true}, {"2048 edges of 65 states", withEdges(wheel(63), loops(1984).Edges...), withEdges(edgeless(2), edge(0, 0, 0, 0)), false},
	} {
		if _, ok := checkUnion(t, c.a, c.b); ok != c.want {
			t.Errorf("%s: UniteAutomata = %v", c.name, ok)
		}
	}
}

// checkLanguages checks promise 7 for two automata: what the intersection and
// the union accept. It says how many words both accept, and how many only one.
func checkLanguages(t *testing.T, a, b impl.Automaton, words []impl.Lasso) (int, int) {
	t.Helper()
	both, okBoth := checkIntersection(t, a, b)
	either, okEither := checkUnion(t, a, b)
	countBoth, countOne := 0, 0
	for _, l := range words {
		byA, byB := mustAccept(t, a, l), mustAccept(t, b, l)
		if okBoth && mustAccept(t, both, l) != (byA && byB) {
			t.Fatalf("%q: %v, %q: %v, but the intersection says something else of %s", automatonText(a), byA, automatonText(b), byB, lassoText(l))
		}
		if okEither && mustAccept(t, either, l) != (byA || byB) {
			t.Fatalf("%q: %v, %q: %v, but the union says something else of %s", automatonText(a), byA, automatonText(b), byB, lassoText(l))
		}
		countBoth += bit(okBoth && byA && byB)
		countOne += bit(okBoth && byA != byB)
	}
	return countBoth, countOne
}

// Promise 7: intersections and unions accept exactly the words that both, or
// one, of the automata accept. A sample of the words that changes from case to
// case keeps this short.
func TestIntersectionsAndUnionsOfSampleAutomata(t *testing.T) {
	words := lassosOf(append(shortWords(), mixedWords(100)...))
	list := append(smallAutomata(), mixedAutomata(400)...)
	n := &numbers{last: 17}
	both, one := 0, 0
	for i := range 12000 {
		a, b := list[n.below(len(list))], list[n.below(len(list))]
		var some []impl.Lasso
		for j := i % 11; j < len(words); j += 11 {
			some = append(some, words[j])
		}
		countBoth, countOne := checkLanguages(t, a, b, some)
		both, one = both+countBoth, one+countOne
	}
	if both < 10000 || one < 10000 {
		t.Errorf("only %d words are accepted by both automata, and %d by one", both, one)
	}
}

func TestIntersectionsAndUnionsOfAllAutomataOfOneState(t *testing.T) {
	words := lassosOf(shortWords())
	for _, a := range smallAutomata()[:32] {
		for _, b := range smallAutomata()[:32] {
			checkLanguages(t, a, b, words)
		}
	}
}

func TestIntersectionsAndUnionsOfLargeAutomata(t *testing.T) {
	list := append(largeAutomata(), mixedAutomata(12)...)
	for _, a := range list {
		for _, b := range list {
			if len(a.Edges)*len(b.Edges) < 300000 {
				checkIntersection(t, a, b)
			}
			checkUnion(t, a, b)
		}
	}
}

// For automata of formulas the words are also those that satisfy both formulas,
// or one of them.
func TestIntersectionsAndUnionsOfFormulas(t *testing.T) {
	var formulas []impl.Formula
	var automata []impl.Automaton
	for _, text := range []string{"T", "!T", "p", "!q", "Xp", "Fp", "Gp", "Fq", "Gq", "GFp", "FGp", "GFq", "FGq", "(pUq)", "(qUp)", "(pRq)", "(qR!p)", "G(p|Xp)", "F(p&Xq)", "Fr", "G!r", "XXq", "FFp"} {
		f := mustParseFormula(t, text)
		a, ok := impl.TranslateFormula(f)
		if !ok {
			t.Fatalf("TranslateFormula(%s) = %v, %v", text, a, ok)
		}
		formulas, automata = append(formulas, f), append(automata, a)
	}
	words := append(lassosOf(shortWords()), lassosOf(mixedWords(30))...)
	small := 0
	for i, f := range formulas {
		for j, g := range formulas {
			both, ok := checkIntersection(t, automata[i], automata[j])
			either, okEither := checkUnion(t, automata[i], automata[j])
			small += bit(ok && okEither)
			for _, l := range words {
				byF, byG := mustSatisfy(t, l, f), mustSatisfy(t, l, g)
				if ok && mustAccept(t, both, l) != (byF && byG) {
					t.Fatalf("the intersection for %s and %s is wrong about %s", formulaText(f), formulaText(g), lassoText(l))
				}
				if okEither && mustAccept(t, either, l) != (byF || byG) {
					t.Fatalf("the union for %s and %s is wrong about %s", formulaText(f), formulaText(g), lassoText(l))
				}
			}
		}
	}
	if small < 400 {
		t.Errorf("only %d pairs have an intersection and a union", small)
	}
}
