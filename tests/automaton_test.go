package tests

import (
	"math"
	"slices"
	"strconv"
	"strings"
	"testing"

	"loop.example/ltlcheck/impl"
)

func edge(from, care, value, to int) impl.Transition {
	return impl.Transition{From: from, Care: care, Value: value, To: to}
}

// listsOf reads lists of numbers, between which there are bars.
func listsOf(text string) [][]int {
	var lists [][]int
	for _, part := range strings.Split(text, "|") {
		var list []int
		for _, field := range strings.Fields(part) {
			n, err := strconv.Atoi(field)
			if err != nil {
				panic(err)
			}
			list = append(list, n)
		}
		lists = append(lists, list)
	}
	return lists
}

// automatonOf reads an automaton from its number of states, its initial states,
// its accepting states and its edges, between which there are bars.
func automatonOf(text string) impl.Automaton {
	lists := listsOf(text)
	a := impl.Automaton{Initial: lists[1], Accepting: make([]bool, lists[0][0])}
	for _, state := range lists[2] {
		a.Accepting[state] = true
	}
	for _, list := range lists[3:] {
		a.Edges = append(a.Edges, edge(list[0], list[1], list[2], list[3]))
	}
	return a
}

// automatonText is the tests' own text of a valid automaton.
func automatonText(a impl.Automaton) string {
	var text strings.Builder
	line := func(word string, list ...int) {
		text.WriteString(word)
		for _, n := range list {
			text.WriteString(" " + strconv.Itoa(n))
		}
		text.WriteString("\n")
	}
	line("automaton", len(a.Accepting))
	line("initial", a.Initial...)
	line("accepting", acceptingOf(a)...)
	for _, e := range a.Edges {
		line("edge", e.From, e.Care, e.Value, e.To)
	}
	return text.String()
}

func acceptingOf(a impl.Automaton) []int {
	var list []int
	for state := range a.Accepting {
		if a.Accepting[state] {
			list = append(list, state)
		}
	}
	return list
}

func equalAutomata(a, b impl.Automaton) bool {
	if len(a.Edges) != len(b.Edges) {
		return false
	}
	for i, e := range a.Edges {
		f := b.Edges[i]
		if e.From != f.From || e.Care != f.Care || e.Value != f.Value || e.To != f.To {
			return false
		}
	}
	return slices.Equal(a.Initial, b.Initial) && slices.Equal(a.Accepting, b.Accepting)
}

func isZeroAutomaton(a impl.Automaton) bool {
	return len(a.Initial) == 0 && len(a.Accepting) == 0 && len(a.Edges) == 0
}

func copyAutomaton(a impl.Automaton) impl.Automaton {
	return impl.Automaton{Initial: slices.Clone(a.Initial), Accepting: slices.Clone(a.Accepting), Edges: slices.Clone(a.Edges)}
}

func withInitial(a impl.Automaton, initial ...int) impl.Automaton {
	b := copyAutomaton(a)
	b.Initial = initial
	return b
}

func withEdges(a impl.Automaton, edges ...impl.Transition) impl.Automaton {
	b := copyAutomaton(a)
	b.Edges = append(b.Edges, edges...)
	return b
}

// loops returns an automaton of one state with that number of edges.
func loops(edges int) impl.Automaton {
	a := automatonOf("1|0|")
	for range edges {
		a.Edges = append(a.Edges, edge(0, 0, 0, 0))
	}
	return a
}

// wheel returns an automaton whose states form a cycle, of which none accepts.
// The letter of an edge is the number of the state, modulo 8.
func wheel(states int) impl.Automaton {
	a := impl.Automaton{Initial: []int{0}, Accepting: make([]bool, states)}
	for i := range states {
		a.Edges = append(a.Edges, edge(i, 7, i%8, (i+1)%states))
	}
	return a
}

// ascendingList returns the numbers from 0 on.
func ascendingList(size int) []int { return cycling(size, max(size, 1)) }

func mixedAutomaton(n *numbers, states, edges, atoms int) impl.Automaton {
	a := impl.Automaton{Accepting: make([]bool, states)}
	for state := range states {
		a.Accepting[state] = n.below(3) == 0
		if n.below(2) == 0 {
			a.Initial = append(a.Initial, state)
		}
	}
	for range edges {
		care := n.below(1 << atoms)
		a.Edges = append(a.Edges, edge(n.below(states), care, n.below(8)&care, n.below(states)))
	}
	return a
}

func mixedAutomata(count int) []impl.Automaton {
	n := &numbers{last: 12}
	var list []impl.Automaton
	for range count {
		states := 1 + n.below(5)
		list = append(list, mixedAutomaton(n, states, n.below(4*states), 1+n.below(3)))
	}
	return list
}

// largeAutomata returns automata of sizes up to the limits.
func largeAutomata() []impl.Automaton {
	n := &numbers{last: 13}
	var list []impl.Automaton
	for _, size := range [][2]int{{64, 2048}, {64, 300}, {64, 100}, {63, 130}, {1, 2048}, {2, 2048}, {33, 64}, {64, 0}, {40, 60}} {
		list = append(list, mixedAutomaton(n, size[0], size[1], 3))
	}
	full := wheel(64)
	full.Initial, full.Accepting = ascendingList(64), slices.Repeat([]bool{true}, 64)
	last := wheel(64)
	last.Accepting[63] = true
	return append(list, full, wheel(64), last, withInitial(last, 63), loops(2048))
}

// smallAutomata returns the automata of one state that look at p only, with the
// edges in one order, and a sample of those of two states.
func smallAutomata() []impl.Automaton {
	var list []impl.Automaton
	for initial := range 2 {
		for accepting := range 2 {
			for edges := range 8 {
				a := impl.Automaton{Initial: ascendingList(initial), Accepting: []bool{accepting == 1}}
				for i, e := range []impl.Transition{edge(0, 0, 0, 0), edge(0, 1, 0, 0), edge(0, 1, 1, 0)} {
					if edges>>i&1 == 1 {
						a.Edges = append(a.Edges, e)
					}
				}
				list = append(list, a)
			}
		}
	}
	n := &numbers{last: 14}
	for range 100 {
		list = append(list, mixedAutomaton(n, 2, n.below(7), 1))
	}
	return list
}

func sampleAutomata() []impl.Automaton {
	list := append(smallAutomata(), mixedAutomata(200)...)
	for _, text := range []string{
		"1||", "1|0|", "1||0", "1|0|0", "1|0|0|0 7 5 0", "2|0|1|0 1 1 1|1 0 0 1", "3|0 2|1|0 3 1 1|1 7 0 2|2 4 4 0|2 4 4 0", "2|0 1|0 1|0 0 0 0|1 0 0 1",
	} {
		list = append(list, automatonOf(text))
	}
	return append(list, largeAutomata()...)
}

// invalidAutomata has an automaton for each way to miss the definition.
func invalidAutomata() map[string]impl.Automaton {
	valid := automatonOf("3|0 2|1|0 3 1 1|1 7 0 2|2 4 4 0")
	list := map[string]impl.Automaton{
		"zero value":                     {},
		"empty lists":                    {Initial: []int{}, Accepting: []bool{}, Edges: []impl.Transition{}},
		"no states but an initial one":   {Initial: []int{0}},
		"no states but an edge":          {Edges: []impl.Transition{edge(0, 0, 0, 0)}},
		"65 states":                      {Accepting: make([]bool, 65)},
		"65 states, one initial":         {Initial: []int{0}, Accepting: make([]bool, 65)},
		"65 states, all initial":         {Initial: ascendingList(65), Accepting: make([]bool, 65)},
		"65 accepting states in a cycle": wheel(65),
		"a million states":               {Initial: []int{0}, Accepting: make([]bool, 1000000)},
		"2049 edges":                     loops(2049),
		"2049 edges of 64 states":        withEdges(wheel(64), loops(2049-64).Edges...),
		"a million edges":                loops(1000000),
		"initial states twice":           withInitial(valid, 0, 0),
		"initial states twice at last":   withInitial(valid, 0, 2, 2),
		"initial states descending":      withInitial(valid, 1, 0),
		"initial states in disorder":     withInitial(valid, 0, 2, 1),
		"a million initial states":       withInitial(valid, make([]int, 1000000)...),
		"initial states beyond the last": withInitial(valid, 0, 1, 2, 3),
		"Value 1 without Care":           withEdges(valid, edge(0, 0, 1, 0)),
		"Value 7 with Care 6":            withEdges(valid, edge(0, 6, 7, 0)),
		"Value 4 with Care 3":            withEdges(valid, edge(0, 3, 4, 0)),
		"Value 2 with Care 5":            withEdges(valid, edge(0, 5, 2, 0)),
		"the first of the edges":         {Initial: []int{0}, Accepting: make([]bool, 2), Edges: []impl.Transition{edge(2, 0, 0, 0), edge(0, 0, 0, 1)}},
		"an edge of no initial state":    {Accepting: make([]bool, 2), Edges: []impl.Transition{edge(1, 1, 2, 0)}},
	}
	for name, state := range map[string]int{"-1": -1, "3": 3, "64": 64, "1<<40": 1 << 40, "the least int": math.MinInt, "the largest int": math.MaxInt} {
		list["initial state "+name] = withInitial(valid, state)
		list["initial state 0 and "+name] = withInitial(valid, 0, state)
		list["initial state "+name+" and 1"] = withInitial(valid, state, 1)
		list["From "+name] = withEdges(valid, edge(state, 0, 0, 0))
		list["To "+name] = withEdges(valid, edge(0, 0, 0, state))
	}
	for name, set := range map[string]int{"-1": -1, "-8": -8, "8": 8, "15": 15, "1<<40": 1 << 40, "the least int": math.MinInt, "the largest int": math.MaxInt} {
		list["Care "+name] = withEdges(valid, edge(0, set, 0, 0))
		list["Care and Value "+name] = withEdges(valid, edge(0, set, set, 0))
		list["Value "+name] = withEdges(valid, edge(0, 7, set, 0))
		list["Value "+name+" without Care"] = withEdges(valid, edge(0, 0, set, 0))
	}
	return list
}

func TestAutomatonValidAccepts(t *testing.T) {
	for _, a := range sampleAutomata() {
		if !impl.AutomatonValid(a) {
			t.Errorf("AutomatonValid of %q = false", automatonText(a))
		}
	}
}

func TestAutomatonLimitsAreInclusive(t *testing.T) {
	for _, c := range []struct {
		states, initial, edges int
		want                   bool
	}{
		{0, 0, 0, false}, {0, 1, 0, false}, {1, 0, 0, true}, {1, 1, 0, true}, {1, 2, 0, false}, {1, 1, 2048, true}, {1, 1, 2049, false}, {1, 0, 2048, true}, {1, 0, 2049, false},
		{63, 64, 0, false}, {64, 0, 0, true}, {64, 64, 0, true}, {64, 65, 0, false}, {64, 64, 2048, true}, {64, 64, 2049, false}, {65, 0, 0, false}, {65, 65, 0, false}, {65, 1, 2048, false}, {65, 1, 2049, false},
	} {
		a := impl.Automaton{Initial: ascendingList(c.initial), Accepting: make([]bool, c.states), Edges: loops(c.edges).Edges}
		if got := impl.AutomatonValid(a); got != c.want {
			t.Errorf("%d states, %d initial ones, %d edges: AutomatonValid = %v", c.states, c.initial, c.edges, got)
		}
	}
	if impl.MaxAutomaton != 64 || impl.MaxTransitions != 2048 || impl.MaxBasics != 5 {
		t.Error("the limits are not those of the document")
	}
}

// Each Care with each Value, and each state as From, To and initial state.
func TestAutomatonValidByEachField(t *testing.T) {
	subset := func(value, care int) bool {
		for i := range 3 {
			if value>>i&1 > care>>i&1 {
				return false
			}
		}
		return value >= 0 && value < 8 && care >= 0 && care < 8
	}
	two := automatonOf("2|0|1")
	for care := -9; care < 18; care++ {
		for value := -9; value < 18; value++ {
			if got := impl.AutomatonValid(withEdges(two, edge(0, care, value, 1))); got != subset(value, care) {
				t.Errorf("Care %d and Value %d: AutomatonValid = %v", care, value, got)
			}
		}
	}
	for i := -3; i < 6; i++ {
		for j := -3; j < 6; j++ {
			states := i >= 0 && i < 2 && j >= 0 && j < 2
			if got := impl.AutomatonValid(withEdges(two, edge(i, 1, 1, j))); got != states {
				t.Errorf("From %d and To %d: AutomatonValid = %v", i, j, got)
			}
			if got := impl.AutomatonValid(withInitial(two, i, j)); got != (states && i < j) {
				t.Errorf("initial states %d and %d: AutomatonValid = %v", i, j, got)
			}
		}
	}
}

// Every function has its own result for an automaton that is not valid.
func TestInvalidAutomata(t *testing.T) {
	valid, word := automatonOf("1|0|0|0 0 0 0"), lassoFrom("02(13)")
	for name, a := range invalidAutomata() {
		if impl.AutomatonValid(a) {
			t.Errorf("%s: AutomatonValid = true", name)
		}
		if text := impl.FormatAutomaton(a); text != "" {
			t.Errorf("%s: FormatAutomaton = %.60q", name, text)
		}
		for _, l := range []impl.Lasso{word, {}, lassoFrom("(0)"), lassoFrom("(8)")} {
			if accepts, ok := impl.Accepts(a, l); ok || accepts {
				t.Errorf("%s: Accepts = %v, %v", name, accepts, ok)
			}
		}
		for _, pair := range [][2]impl.Automaton{{a, valid}, {valid, a}, {a, a}} {
			if both, ok := impl.IntersectAutomata(pair[0], pair[1]); ok || !isZeroAutomaton(both) {
				t.Errorf("%s: IntersectAutomata = %v, %v", name, both, ok)
			}
			if united, ok := impl.UniteAutomata(pair[0], pair[1]); ok || !isZeroAutomaton(united) {
				t.Errorf("%s: UniteAutomata = %v, %v", name, united, ok)
			}
		}
		if l, ok := impl.FindWord(a); ok || !isZeroLasso(l) {
			t.Errorf("%s: FindWord = %v, %v", name, l, ok)
		}
		if live := impl.LiveStates(a); len(live) != 0 {
			t.Errorf("%s: LiveStates = %v", name, live)
		}
	}
}

// An automaton without initial states is valid, and accepts no word.
func TestAutomataWithoutInitialStates(t *testing.T) {
	word := lassoFrom("02(13)")
	everything := automatonOf("1|0|0|0 0 0 0")
	for _, text := range []string{"1||", "1||0", "1||0|0 0 0 0", "2||0 1|0 0 0 1|1 0 0 0", "3||1|0 3 1 1|1 7 0 2|2 4 4 0"} {
		a := automatonOf(text)
		if !impl.AutomatonValid(a) || !impl.AutomatonSame(a, a) || impl.AutomatonSame(a, withInitial(a, 0)) {
			t.Errorf("%s: it is not treated as a valid automaton", text)
		}
		if a.Initial = []int{}; !impl.AutomatonSame(a, withInitial(a)) {
			t.Errorf("%s: the empty list and no list are treated differently", text)
		}
		written := impl.FormatAutomaton(a)
		if back, ok := impl.ParseAutomaton(written); written != automatonText(a) || !ok || !equalAutomata(back, a) {
			t.Errorf("%s: FormatAutomaton = %q, ParseAutomaton = %v, %v", text, written, back, ok)
		}
		if accepts, ok := impl.Accepts(a, word); !ok || accepts {
			t.Errorf("%s: Accepts = %v, %v", text, accepts, ok)
		}
		for _, pair := range [][2]impl.Automaton{{a, everything}, {everything, a}, {a, a}} {
			if both, ok := impl.IntersectAutomata(pair[0], pair[1]); !ok || !equalAutomata(both, automatonOf("1||")) {
				t.Errorf("%s: IntersectAutomata = %v, %v", text, both, ok)
			}
			united, ok := impl.UniteAutomata(pair[0], pair[1])
			if accepts, _ := impl.Accepts(united, word); !ok || len(united.Accepting) != len(pair[0].Accepting)+len(pair[1].Accepting) || accepts != (len(united.Initial) == 1) {
				t.Errorf("%s: UniteAutomata = %v, %v", text, united, ok)
			}
		}
		if l, ok := impl.FindWord(a); ok || !isZeroLasso(l) {
			t.Errorf("%s: FindWord = %v, %v", text, l, ok)
		}
		if live := impl.LiveStates(a); !slices.Equal(live, liveOf(a)) {
			t.Errorf("%s: LiveStates = %v", text, live)
		}
	}
}

func TestAutomatonSame(t *testing.T) {
	list := append(smallAutomata(), mixedAutomata(40)...)
	list = append(list, largeAutomata()...)
	for i, a := range list {
		for j, b := range list {
			if got := impl.AutomatonSame(a, b); got != equalAutomata(a, b) || i == j && !got {
				t.Errorf("AutomatonSame of %q and %q = %v", automatonText(a), automatonText(b), got)
			}
		}
		if !impl.AutomatonSame(a, copyAutomaton(a)) {
			t.Errorf("a copy of %q is not the same", automatonText(a))
		}
	}
}

// Automata that differ in one place only, whether they are valid or not.
func TestAutomatonSameOfEachField(t *testing.T) {
	a := automatonOf("3|0 2|1|0 3 1 1|1 7 0 2|2 4 4 0")
	for name, b := range map[string]impl.Automaton{
		"another initial state":    withInitial(a, 0, 1),
		"one initial state less":   withInitial(a, 0),
		"one initial state more":   withInitial(a, 0, 2, 3),
		"initial states swapped":   withInitial(a, 2, 0),
		"no initial state":         withInitial(a),
		"another accepting state":  automatonOf("3|0 2|1 2|0 3 1 1|1 7 0 2|2 4 4 0"),
		"no accepting state":       automatonOf("3|0 2||0 3 1 1|1 7 0 2|2 4 4 0"),
		"one state more":           automatonOf("4|0 2|1|0 3 1 1|1 7 0 2|2 4 4 0"),
		"one state less":           {Initial: a.Initial, Accepting: a.Accepting[:2], Edges: a.Edges},
		"one edge more":            withEdges(a, edge(0, 0, 0, 0)),
		"an edge twice":            withEdges(a, edge(2, 4, 4, 0)),
		"one edge less":            automatonOf("3|0 2|1|0 3 1 1|1 7 0 2"),
		"the first edge less":      automatonOf("3|0 2|1|1 7 0 2|2 4 4 0"),
		"no edges":                 automatonOf("3|0 2|1"),
		"edges swapped":            automatonOf("3|0 2|1|1 7 0 2|0 3 1 1|2 4 4 0"),
		"another From":             automatonOf("3|0 2|1|0 3 1 1|1 7 0 2|1 4 4 0"),
		"another Care":             automatonOf("3|0 2|1|0 3 1 1|1 3 0 2|2 4 4 0"),
		"another Value":            automatonOf("3|0 2|1|0 3 1 1|1 7 0 2|2 4 0 0"),
		"another To":               automatonOf("3|0 2|1|0 3 1 1|1 7 0 2|2 4 4 2"),
		"a Care that is not valid": automatonOf("3|0 2|1|0 3 1 1|1 7 0 2|2 12 4 0"),
	} {
		if impl.AutomatonSame(a, b) || impl.AutomatonSame(b, a) {
			t.Errorf("%s: AutomatonSame = true", name)
		}
		if !impl.AutomatonSame(b, copyAutomaton(b)) {
			t.Errorf("%s: the copy is not the same", name)
		}
	}
	empty := impl.Automaton{Initial: []int{}, Accepting: []bool{}, Edges: []impl.Transition{}}
	if !impl.AutomatonSame(impl.Automaton{}, empty) || !impl.AutomatonSame(empty, impl.Automaton{}) {
		t.Error("AutomatonSame distinguishes empty lists")
	}
}

func TestAutomatonSameAcceptsInvalid(t *testing.T) {
	list := invalidAutomata()
	for name, a := range list {
		if !impl.AutomatonSame(a, a) || !impl.AutomatonSame(a, copyAutomaton(a)) {
			t.Errorf("%s: AutomatonSame = false", name)
		}
		for other, b := range list {
			if got := impl.AutomatonSame(a, b); got != equalAutomata(a, b) {
				t.Errorf("%s and %s: AutomatonSame = %v", name, other, got)
			}
		}
	}
}
