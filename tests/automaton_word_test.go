package tests

import (
	"slices"
	"strconv"
	"strings"
	"testing"

	"loop.example/ltlcheck/impl"
)

// mustAccept returns the answer of Accepts for a valid automaton and lasso.
func mustAccept(t *testing.T, a impl.Automaton, l impl.Lasso) bool {
	t.Helper()
	accepts, ok := impl.Accepts(a, l)
	if !ok {
		t.Fatalf("Accepts of %q and %s = %v, %v", automatonText(a), lassoText(l), accepts, ok)
	}
	return accepts
}

// canTake says whether an edge can be taken with a letter, atom by atom.
func canTake(e impl.Transition, letter int) bool {
	for i := range 3 {
		if e.Care>>i&1 == 1 && e.Value>>i&1 != letter>>i&1 {
			return false
		}
	}
	return true
}

// spot is a state of an automaton at a position of a lasso.
type spot struct{ state, place int }

// spotsFrom returns the spots to which runs lead from one of the spots, and
// those themselves.
func spotsFrom(a impl.Automaton, w word, starts []spot) map[spot]bool {
	found := map[spot]bool{}
	for work := starts; len(work) > 0; work = work[1:] {
		if !found[work[0]] {
			found[work[0]] = true
			work = append(work, spotsAfter(a, w, work[0])...)
		}
	}
	return found
}

func spotsAfter(a impl.Automaton, w word, s spot) []spot {
	var list []spot
	letter := w.letter(s.place)
	for _, e := range a.Edges {
		if e.From == s.state && canTake(e, letter) {
			list = append(list, spot{e.To, w.place(s.place + 1)})
		}
	}
	return list
}

// acceptsWord says by the definition whether a accepts the word: a run comes
// back to some accepting state at the same position.
func acceptsWord(a impl.Automaton, w word) bool {
	var starts []spot
	for _, state := range a.Initial {
		starts = append(starts, spot{state, 0})
	}
	for s := range spotsFrom(a, w, starts) {
		if a.Accepting[s.state] && spotsFrom(a, w, spotsAfter(a, w, s))[s] {
			return true
		}
	}
	return false
}

func checkAccepts(t *testing.T, a impl.Automaton, w word) bool {
	t.Helper()
	want := acceptsWord(a, w)
	if got := mustAccept(t, a, impl.Lasso{Stem: w.stem, Loop: w.loop}); got != want {
		t.Fatalf("Accepts of %q and %v = %v", automatonText(a), w, got)
	}
	return want
}

func TestAccepts(t *testing.T) {
	const justP = "1|0|0|0 1 1 0"
	for _, c := range []struct {
		automaton, word string
		want            bool
	}{
		{"1|0|0|0 0 0 0", "(0)", true}, {"1|0||0 0 0 0", "(0)", false}, {"1||0|0 0 0 0", "(0)", false}, {"1|0|0", "(0)", false}, {"1|0|0|0 7 7 0", "(7)", true}, {"1|0|0|0 7 7 0", "(6)", false},
		// Care and Value.
		{justP, "(1)", true}, {justP, "(7)", true}, {justP, "(5)", true}, {justP, "(0)", false}, {justP, "(6)", false}, {justP, "1(0)", false}, {justP, "0(1)", false}, {justP, "(10)", false},
		{"1|0|0|0 2 0 0", "(5)", true}, {"1|0|0|0 2 0 0", "(2)", false}, {"1|0|0|0 6 4 0", "(45)", true}, {"1|0|0|0 6 4 0", "(46)", false}, {"1|0|0|0 6 0 0", "(01)", true}, {"1|0|0|0 5 4 0", "(46)", true},
		{"1|0|0|0 1 1 0|0 1 0 0", "(01)", true}, {"1|0|0|0 1 1 0|0 2 2 0", "(12)", true}, {"1|0|0|0 1 1 0|0 2 2 0", "(124)", false},
		// An accepting state has to be visited again and again, not just once.
		{"2|0|0|0 0 0 1|1 0 0 1", "(0)", false}, {"2|0|1|0 0 0 1|1 0 0 1", "(0)", true}, {"2|0|1|0 0 0 1|1 0 0 0", "(0)", true}, {"2|0|0|0 0 0 1|1 0 0 0", "(0)", true}, {"2|1|1|0 0 0 0|1 0 0 0", "(0)", false},
		{"3|0|1|0 0 0 1|1 0 0 2|2 0 0 2", "(0)", false}, {"3|0|1|0 0 0 1|1 0 0 2|2 0 0 1", "(0)", true}, {"2|0|1|0 0 0 0|0 1 1 1|1 1 1 1", "00(1)", true}, {"2|0|1|0 0 0 0|0 1 1 1|1 1 1 1", "(01)", false},
		{"2|0|1|0 1 0 0|0 1 1 1|1 1 0 0|1 1 1 1", "(01)", true}, {"2|0|1|0 1 0 0|0 1 1 1|1 1 0 0|1 1 1 1", "111(0)", false}, {"2|0|1|0 1 0 0|0 1 1 1|1 1 0 0|1 1 1 1", "000(1)", true},
		// The cycle of the automaton is longer than the loop, or shorter, or has another length.
		{"3|0|2|0 0 0 1|1 0 0 2|2 0 0 0", "(0)", true}, {"3|0|2|0 1 1 1|1 1 1 2|2 1 1 0", "(11)", true}, {"3|0|2|0 1 0 1|1 1 0 2|2 1 1 0", "(0)", false}, {"3|0|2|0 1 0 1|1 1 0 2|2 1 1 0", "(001)", true},
		{"3|0|2|0 1 0 1|1 1 0 2|2 1 1 0", "001(001001)", true}, {"3|0|2|0 1 0 1|1 1 0 2|2 1 1 0", "0(010)", true}, {"3|0|2|0 1 0 1|1 1 0 2|2 1 1 0", "(0001)", false}, {"2|0|1|0 0 0 1|1 0 0 0", "(000)", true},
		{"2|0|1|0 1 0 1|1 1 1 0", "(010)", false}, {"2|0|1|0 1 0 1|1 1 1 0", "(01)", true}, {"2|0|1|0 1 0 1|1 1 1 0", "(10)", false}, {"2|1|1|0 1 0 1|1 1 1 0", "(10)", true},
		// The stem decides where the loop is entered.
		{"3|0|1|0 1 0 1|0 1 1 2|1 0 0 1|2 0 0 2", "0(4)", true}, {"3|0|1|0 1 0 1|0 1 1 2|1 0 0 1|2 0 0 2", "1(4)", false}, {"2|0|1|0 4 4 1|1 4 0 1", "4(0)", true}, {"2|0|1|0 4 4 1|1 4 0 1", "(0)", false},
		{"2|0|1|0 4 4 1|1 4 0 1", "4(4)", false}, {"2|0|1|0 4 4 1|1 4 0 1", "(4)", false},
		// Several runs, of which one is enough, and several initial states.
		{"3|0|2|0 0 0 1|0 0 0 2|1 0 0 1|2 0 0 2", "(0)", true}, {"3|0|2|0 0 0 1|0 0 0 2|1 0 0 1|2 1 1 2", "(0)", false}, {"2|0 1|1|0 0 0 0|1 1 1 1", "(1)", true}, {"2|0 1|1|0 0 0 0|1 1 1 1", "(0)", false},
		{"2|0|1|0 0 0 0|0 1 1 1|1 1 1 1", "0(1)", true}, {"2|0|1|0 0 0 0|0 1 1 1|1 1 1 1", "1(0)", false}, {"2|0|1|0 0 0 0|0 1 1 1|1 1 1 1", "0101(1)", true},
		// Edges that are there twice, and edges that are in no order.
		{"2|0|1|1 0 0 1|1 0 0 1|0 1 1 1|0 1 1 1", "1(0)", true}, {"2|0|1|1 0 0 1|1 0 0 1|0 1 1 1|0 1 1 1", "(0)", false},
	} {
		a, l := automatonOf(c.automaton), lassoFrom(c.word)
		if got := mustAccept(t, a, l); got != c.want {
			t.Errorf("Accepts of %s and %s = %v", c.automaton, c.word, got)
		}
		checkAccepts(t, a, word{l.Stem, l.Loop})
	}
}

func TestAcceptsOfSampleAutomata(t *testing.T) {
	words := append(shortWords(), mixedWords(60)...)
	accepted, refused := 0, 0
	for i, a := range append(smallAutomata(), mixedAutomata(1500)...) {
		for j := i % 5; j < len(words); j += 5 {
			if checkAccepts(t, a, words[j]) {
				accepted++
			} else {
				refused++
			}
		}
	}
	if accepted < 5000 || refused < 5000 {
		t.Errorf("only %d words are accepted, and %d are not", accepted, refused)
	}
}

func TestAcceptsOfLargeAutomataAndLassos(t *testing.T) {
	accepted := 0
	for _, a := range largeAutomata() {
		for i, l := range append(largeLassos(), lassoFrom("(0)"), lassoFrom("(76543210)"), lassoFrom("7(01234567)"), lassoFrom("(01234567)")) {
			if len(a.Edges) > 200 && i%4 > 0 {
				continue
			}
			accepted += bit(checkAccepts(t, a, word{l.Stem, l.Loop}))
		}
	}
	if accepted < 20 {
		t.Errorf("only %d words are accepted", accepted)
	}
}

func TestAcceptsOfInvalidLassos(t *testing.T) {
	for name, l := range invalidLassos() {
		for _, a := range []impl.Automaton{automatonOf("1|0|0|0 0 0 0"), automatonOf("1||"), wheel(64)} {
			if accepts, ok := impl.Accepts(a, l); ok || accepts {
				t.Errorf("%s: Accepts = %v, %v", name, accepts, ok)
			}
		}
	}
}

// Whether a word is accepted depends only on the word.
func TestLassosOfOneWordAreAcceptedTogether(t *testing.T) {
	list := mixedAutomata(300)
	for i, l := range sampleLassos() {
		for j := i % 30; j < len(list); j += 30 {
			want := mustAccept(t, list[j], l)
			for _, other := range otherLassos(l, 3) {
				if mustAccept(t, list[j], other) != want {
					t.Fatalf("%s and %s are the same word, but only one is accepted by %q", lassoText(l), lassoText(other), automatonText(list[j]))
				}
			}
		}
	}
}

// searchedWords returns the states that a breadth-first search from the starts
// finds, in order, and the Values of the edges by which it finds each of them.
func searchedWords(a impl.Automaton, starts []int) ([]int, map[int][]int) {
	words := map[int][]int{}
	for _, state := range starts {
		words[state] = []int{}
	}
	found := slices.Clone(starts)
	for i := 0; i < len(found); i++ {
		for _, e := range a.Edges {
			if _, known := words[e.To]; e.From == found[i] && !known {
				words[e.To] = append(slices.Clone(words[e.From]), e.Value)
				found = append(found, e.To)
			}
		}
	}
	return found, words
}

// firstValue returns the Value of the first edge between two states.
func firstValue(a impl.Automaton, from, to int) (int, bool) {
	for _, e := range a.Edges {
		if e.From == from && e.To == to {
			return e.Value, true
		}
	}
	return 0, false
}

// foundWord is the chapter's text about the search, written down once more.
func foundWord(a impl.Automaton) (impl.Lasso, bool) {
	found, stems := searchedWords(a, a.Initial)
	for _, state := range found {
		if !a.Accepting[state] {
			continue
		}
		if value, ok := firstValue(a, state, state); ok {
			return impl.Lasso{Stem: stems[state], Loop: []int{value}}, true
		}
		around, loops := searchedWords(a, []int{state})
		for _, last := range around {
			if value, ok := firstValue(a, last, state); ok {
				return impl.Lasso{Stem: stems[state], Loop: append(loops[last], value)}, true
			}
		}
	}
	return impl.Lasso{}, false
}

func checkFindWord(t *testing.T, a impl.Automaton) bool {
	t.Helper()
	got, ok := impl.FindWord(a)
	want, found := foundWord(a)
	if ok != found || !equalLassos(got, want) {
		t.Fatalf("FindWord of %q = %v, %v, want %v, %v", automatonText(a), got, ok, want, found)
	}
	if ok && (!mustAccept(t, a, got) || !acceptsWord(a, word{got.Stem, got.Loop})) {
		t.Fatalf("FindWord of %q = %s, which is not accepted", automatonText(a), lassoText(got))
	}
	if some := slices.ContainsFunc(a.Initial, func(state int) bool { return liveOf(a)[state] }); ok != some {
		t.Fatalf("FindWord of %q = %v, but whether it accepts some word is %v", automatonText(a), ok, some)
	}
	return ok
}

func TestFindWord(t *testing.T) {
	for _, c := range []struct{ automaton, want string }{
		// An accepting state with an edge to itself.
		{"1|0|0|0 0 0 0", "(0)"}, {"1|0|0|0 7 5 0", "(5)"}, {"1|0|0|0 4 4 0", "(4)"}, {"2|0|1|0 3 1 1|1 2 2 1", "1(2)"}, {"2|1|1|0 3 1 1|1 2 2 1", "(2)"}, {"3|0|2|0 1 1 1|1 1 0 2|2 4 4 2", "10(4)"},
		// The first of several such edges counts, also if a longer cycle stands before it.
		{"1|0|0|0 1 1 0|0 1 0 0", "(1)"}, {"1|0|0|0 1 0 0|0 1 1 0", "(0)"}, {"2|0|0|0 7 1 1|1 7 2 0|0 7 4 0|0 7 3 0", "(4)"}, {"2|0|0|1 7 2 0|0 7 1 1|0 7 3 0", "(3)"}, {"2|0|1|1 7 2 0|1 7 6 1|0 7 1 1|0 7 5 1|1 7 4 1", "1(6)"},
		// An accepting state on a longer cycle only.
		{"2|0|0|0 7 1 1|1 7 2 0", "(12)"}, {"2|0|1|0 7 1 1|1 7 2 0", "1(21)"}, {"3|0|0|0 7 1 1|1 7 2 2|2 7 4 0", "(124)"}, {"3|0|2|0 7 1 1|1 7 2 2|2 7 4 0", "12(412)"}, {"3|0|2|0 7 1 1|1 7 2 2|2 7 4 1", "12(42)"},
		{"3|0|1|0 7 3 0|0 7 1 1|1 7 2 2|2 7 4 0|2 7 5 2", "1(241)"}, {"3|0|1|0 7 1 1|1 7 2 2|2 7 4 2|2 7 5 1", "1(25)"},
		// Of several cycles, a shortest one, and of these the one whose last state is found first.
		{"4|0|0|0 7 1 1|0 7 2 2|1 7 3 3|2 7 4 0|3 7 5 0", "(24)"}, {"4|0|0|0 7 1 1|0 7 2 2|1 7 3 3|3 7 5 0|2 7 6 3", "(135)"}, {"3|0|0|0 7 2 2|0 7 1 1|1 7 3 0|2 7 4 0", "(24)"}, {"3|0|0|0 7 1 1|0 7 2 2|2 7 4 0|1 7 3 0", "(13)"},
		{"4|0|0|0 7 1 1|0 7 2 2|1 7 3 3|2 7 4 3|3 7 5 0", "(135)"}, {"4|0|0|0 7 2 2|0 7 1 1|1 7 3 3|2 7 4 3|3 7 5 0", "(245)"}, {"2|0|0|0 7 1 1|0 7 2 1|1 7 3 0|1 7 4 0", "(13)"}, {"2|0|0|0 7 2 1|0 7 1 1|1 7 4 0|1 7 3 0", "(24)"},
		// The stem is found first, too: it is a shortest one, by the first edges.
		{"2|0|1|0 7 2 1|0 7 1 1|1 7 0 1", "2(0)"}, {"4|0|3|0 7 1 1|0 7 2 2|2 7 3 3|1 7 4 3|3 7 0 3", "14(0)"}, {"4|0|3|0 7 1 2|0 7 2 1|1 7 3 3|2 7 4 3|3 7 0 3", "14(0)"}, {"3|0|2|0 7 1 1|1 7 2 2|0 7 3 2|2 7 0 2", "3(0)"},
		{"3|0|2|0 7 6 0|0 7 1 1|1 7 2 2|1 7 5 1|2 7 0 2", "12(0)"},
		// The initial states come first, in ascending order, and then what they lead to.
		{"3|0 1|2|0 7 1 0|1 7 2 2|2 7 0 2", "2(0)"}, {"3|0 1|2|1 7 2 2|0 7 1 2|2 7 0 2", "1(0)"}, {"3|1 2|0 1 2|0 7 0 0|1 7 1 1|2 7 2 2", "(1)"}, {"3|0 2|1 2|0 7 1 1|1 7 3 1|2 7 2 2", "(2)"}, {"3|0 2|2|0 7 1 2|2 7 3 2", "(3)"},
		// An accepting state that no cycle goes through is passed over.
		{"2|0|0 1|0 7 1 1|1 7 2 1", "1(2)"}, {"3|0|0 1 2|0 7 1 1|1 7 2 2|2 7 3 2", "12(3)"}, {"3|0|1 2|0 7 1 1|1 7 2 2|2 7 3 2|1 7 4 0|0 7 5 0", "1(41)"}, {"4|0|1 3|0 7 1 1|0 7 2 2|2 7 3 3|3 7 4 2", "23(43)"},
		{"3|0|1 2|0 7 0 0|0 7 1 1|0 7 2 2|2 7 3 2", "2(3)"},
		// The first accepting state in the order of the search, not that of the numbers, and not the one with the shorter loop.
		{"3|0|1 2|0 7 2 2|0 7 1 1|1 7 1 1|2 7 2 2", "2(2)"}, {"3|0|1 2|0 7 1 1|0 7 2 2|1 7 3 1|2 7 4 2", "1(3)"}, {"4|3|0 1|3 7 1 2|2 7 2 1|1 7 3 0|0 7 4 0|1 7 5 2", "12(52)"}, {"4|3|0 1|3 7 1 2|2 7 2 1|1 7 3 0|0 7 4 0", "123(4)"},
		{"3|0|1 2|0 7 1 1|0 7 2 2|2 7 2 2|1 7 3 0", "1(31)"}, {"3|0|0 1|0 7 1 1|1 7 1 1|1 7 2 2|2 7 4 0", "(124)"},
		// Values of edges that do not care about all atoms.
		{"2|0|1|0 0 0 1|1 4 4 0", "0(40)"}, {"2|0|1|0 2 2 1|1 5 1 1", "2(1)"},
		// No word is accepted.
		{"1||", ""}, {"1|0|", ""}, {"1||0", ""}, {"1|0|0", ""}, {"1||0|0 0 0 0", ""}, {"1|0||0 0 0 0", ""}, {"2|0|1|0 0 0 0", ""}, {"2|0|1|0 0 0 0|0 0 0 1", ""}, {"2|0|1|0 0 0 0|1 0 0 1", ""}, {"2|0|1|0 0 0 1", ""},
		{"3|0|1|0 0 0 1|1 0 0 2|2 0 0 2", ""}, {"3|0|0|0 0 0 1|1 0 0 2|2 0 0 1", ""}, {"3|0|1 2|0 0 0 0|1 0 0 2|2 0 0 1|1 0 0 0", ""}, {"2|1|0|0 0 0 0|0 0 0 1", ""},
	} {
		a := automatonOf(c.automaton)
		got, ok := impl.FindWord(a)
		if ok != (c.want != "") || ok && lassoText(got) != c.want || !ok && !isZeroLasso(got) {
			t.Errorf("FindWord of %s = %s, %v, want %s", c.automaton, lassoText(got), ok, c.want)
		}
		checkFindWord(t, a)
	}
}

func TestFindWordOfSampleAutomata(t *testing.T) {
	found, none := 0, 0
	for _, a := range append(sampleAutomata(), mixedAutomata(4000)...) {
		if checkFindWord(t, a) {
			found++
		} else {
			none++
		}
	}
	n := &numbers{last: 15}
	for range 300 {
		states := 5 + n.below(60)
		found += bit(checkFindWord(t, mixedAutomaton(n, states, n.below(3*states), 3)))
	}
	if found < 1000 || none < 1000 {
		t.Errorf("%d automata accept some word, and %d do not", found, none)
	}
}

// The longest stems and loops that there are.
func TestFindWordOfTheLargestCycles(t *testing.T) {
	around := strings.Repeat("01234567", 8)
	for _, c := range []struct {
		accepting int
		want      string
	}{{0, "(" + around + ")"}, {63, around[:63] + "(7" + around[:63] + ")"}, {10, around[:10] + "(" + around[10:] + around[:10] + ")"}} {
		a := wheel(64)
		a.Accepting[c.accepting] = true
		if got, ok := impl.FindWord(a); !ok || lassoText(got) != c.want {
			t.Errorf("FindWord of a cycle that accepts in %d = %s, %v", c.accepting, lassoText(got), ok)
		}
		checkFindWord(t, a)
		a.Edges = a.Edges[:63]
		if got, ok := impl.FindWord(a); ok || !isZeroLasso(got) {
			t.Errorf("FindWord of a path that accepts in %d = %s, %v", c.accepting, lassoText(got), ok)
		}
	}
}

// liveOf says for each state whether an accepting state that comes back to
// itself can be reached.
func liveOf(a impl.Automaton) []bool {
	var reach [64][64]bool
	for _, e := range a.Edges {
		reach[e.From][e.To] = true
	}
	for k := range a.Accepting {
		for i := range a.Accepting {
			for j := range a.Accepting {
				reach[i][j] = reach[i][j] || reach[i][k] && reach[k][j]
			}
		}
	}
	live := make([]bool, len(a.Accepting))
	for i := range live {
		for _, j := range acceptingOf(a) {
			live[i] = live[i] || (i == j || reach[i][j]) && reach[j][j]
		}
	}
	return live
}

func TestLiveStates(t *testing.T) {
	for _, c := range []struct{ automaton, want string }{
		{"1|0|0|0 0 0 0", "0"}, {"1||0|0 0 0 0", "0"}, {"1|0|0", "-"}, {"1|0||0 0 0 0", "-"}, {"1||", "-"},
		// A state from which no accepting cycle can be reached, whether it is reachable or not.
		{"2|0|0|0 0 0 0|0 0 0 1", "0"}, {"2|0|0|0 0 0 0", "0"}, {"2|0|0|0 0 0 0|1 0 0 1", "0"}, {"2|0|0|0 0 0 0|1 0 0 0", "0 1"}, {"3|0|0|0 0 0 0|1 0 0 2|2 0 0 1", "0"}, {"3|0|0|0 0 0 0|1 0 0 2|2 0 0 1|2 0 0 0", "0 1 2"},
		// A state that is live although it is not reachable.
		{"3|0|1|0 0 0 0|1 7 7 1|2 3 1 1", "1 2"}, {"3|0|2|0 0 0 0|1 0 0 2|2 0 0 1", "1 2"}, {"3||1 2|0 0 0 1|1 0 0 2|2 0 0 2", "0 1 2"},
		// The accepting state is not on a cycle, or its cycle is longer.
		{"2|0|0|0 0 0 1|1 0 0 1", "-"}, {"2|0|0 1|0 0 0 1|1 0 0 1", "0 1"}, {"2|0|1|0 0 0 1|1 0 0 0", "0 1"}, {"3|0|1|0 0 0 1|1 0 0 2|2 0 0 2", "-"}, {"3|0|1|0 0 0 1|1 0 0 2|2 0 0 1", "0 1 2"},
		{"4|0|2|0 0 0 1|1 0 0 2|2 0 0 3|3 0 0 1", "0 1 2 3"}, {"4|0|3|0 0 0 1|1 0 0 2|2 0 0 0|2 0 0 3", "-"}, {"4|0|3|0 0 0 1|1 0 0 2|2 0 0 0|2 0 0 3|3 0 0 3", "0 1 2 3"}, {"4|0|0|0 0 0 0|0 0 0 1|1 0 0 2|2 0 0 3|3 0 0 1", "0"},
		// No states are live without accepting states.
		{"3|0 1 2||0 0 0 1|1 0 0 2|2 0 0 0|0 0 0 0", "-"}, {"2|0||0 0 0 0|0 0 0 1|1 0 0 0|1 0 0 1", "-"},
	} {
		a := automatonOf(c.automaton)
		var live []string
		for state, is := range impl.LiveStates(a) {
			if is {
				live = append(live, strconv.Itoa(state))
			}
		}
		if got := strings.Join(live, " "); got != strings.TrimPrefix(c.want, "-") || len(impl.LiveStates(a)) != len(a.Accepting) {
			t.Errorf("LiveStates of %s = %v, want %s", c.automaton, got, c.want)
		}
		checkLiveStates(t, a)
	}
}

func checkLiveStates(t *testing.T, a impl.Automaton) []bool {
	t.Helper()
	got := impl.LiveStates(a)
	if !slices.Equal(got, liveOf(a)) {
		t.Fatalf("LiveStates of %q = %v", automatonText(a), got)
	}
	for state, live := range got {
		if _, found := impl.FindWord(withInitial(a, state)); found != live {
			t.Fatalf("LiveStates of %q = %v, but whether a word is found from %d is %v", automatonText(a), got, state, found)
		}
	}
	return got
}

func TestLiveStatesOfSampleAutomata(t *testing.T) {
	live, dead := 0, 0
	n := &numbers{last: 16}
	list := append(sampleAutomata(), mixedAutomata(2000)...)
	for range 100 {
		states := 5 + n.below(60)
		list = append(list, mixedAutomaton(n, states, n.below(2*states), 3))
	}
	for _, a := range list {
		for _, is := range checkLiveStates(t, a) {
			live += bit(is)
			dead += bit(!is)
		}
	}
	if live < 2000 || dead < 2000 {
		t.Errorf("%d states are live, and %d are not", live, dead)
	}
}
