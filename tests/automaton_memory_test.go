package tests

import (
	"slices"
	"testing"

	"loop.example/ltlcheck/impl"
)

// roomyAutomaton returns a copy of a whose lists are parts of longer ones.
func roomyAutomaton(a impl.Automaton) impl.Automaton {
	return impl.Automaton{
		Initial:   roomyInts(a.Initial),
		Accepting: append(slices.Clone(a.Accepting), true, true, true)[:len(a.Accepting)],
		Edges:     append(slices.Clone(a.Edges), edge(77, 77, 77, 77), edge(77, 77, 77, 77))[:len(a.Edges)],
	}
}

// untouchedAutomaton reports whether a is still the roomy copy of before.
func untouchedAutomaton(a, before impl.Automaton) bool {
	accepting := a.Accepting[len(a.Accepting) : len(a.Accepting)+3]
	edges := a.Edges[len(a.Edges) : len(a.Edges)+2]
	beyond := accepting[0] && accepting[1] && accepting[2] && edges[0] == edge(77, 77, 77, 77) && edges[1] == edges[0]
	return equalAutomata(a, before) && untouchedInts(a.Initial, before.Initial) && beyond
}

func overwriteAutomaton(a impl.Automaton) {
	overwriteInts(a.Initial)
	accepting, edges := a.Accepting[:cap(a.Accepting)], a.Edges[:cap(a.Edges)]
	for i := range accepting {
		accepting[i] = !accepting[i]
	}
	for i := range edges {
		edges[i] = edge(99, 99, 99, 99)
	}
}

// noMemoryTwiceIn checks that no two of the automata share memory.
func noMemoryTwiceIn(t *testing.T, what string, automata ...impl.Automaton) {
	t.Helper()
	accepting, edges := map[*bool]bool{}, map[*impl.Transition]bool{}
	var lists [][]int
	for _, a := range automata {
		lists = append(lists, a.Initial)
		for i := range a.Accepting[:cap(a.Accepting)] {
			place := &a.Accepting[:cap(a.Accepting)][i]
			if accepting[place] {
				t.Fatalf("%s: two automata share Accepting", what)
			}
			accepting[place] = true
		}
		for i := range a.Edges[:cap(a.Edges)] {
			place := &a.Edges[:cap(a.Edges)][i]
			if edges[place] {
				t.Fatalf("%s: two automata share Edges", what)
			}
			edges[place] = true
		}
	}
	noIntTwice(t, what, lists)
}

// automatonCalls returns the calls that return an automaton.
func automatonCalls(a, b impl.Automaton) []func() impl.Automaton {
	text := impl.FormatAutomaton(a)
	return []func() impl.Automaton{
		func() impl.Automaton { r, _ := impl.IntersectAutomata(a, b); return r },
		func() impl.Automaton { r, _ := impl.IntersectAutomata(a, a); return r },
		func() impl.Automaton { r, _ := impl.UniteAutomata(a, b); return r },
		func() impl.Automaton { r, _ := impl.UniteAutomata(a, a); return r },
		func() impl.Automaton { r, _ := impl.ParseAutomaton(text); return r },
	}
}

// memoryAutomata has automata with all, with some and without any of the lists.
func memoryAutomata() []impl.Automaton {
	list := append(smallAutomata()[:40], mixedAutomata(60)...)
	for _, a := range largeAutomata() {
		if len(a.Edges) <= 300 {
			list = append(list, a)
		}
	}
	return append(list, automatonOf("1||"), automatonOf("2|0 1|0 1|0 0 0 1|1 0 0 0"))
}

func TestAutomatonArgumentsStay(t *testing.T) {
	list := memoryAutomata()
	for name, a := range invalidAutomata() {
		if len(a.Edges) < 3000 && len(a.Initial) < 3000 && len(a.Accepting) < 3000 {
			list = append(list, a)
		} else if impl.AutomatonValid(a) {
			t.Errorf("%s is valid", name)
		}
	}
	words := sampleLassos()
	for i, before := range list {
		beforeB, beforeWord := list[(i*7+3)%len(list)], words[i%len(words)]
		a, b, l := roomyAutomaton(before), roomyAutomaton(beforeB), roomyLasso(beforeWord)
		untouched := func() bool {
			return untouchedAutomaton(a, before) && untouchedAutomaton(b, beforeB) && untouchedLasso(l, beforeWord)
		}
		impl.AutomatonValid(a)
		impl.AutomatonSame(a, b)
		impl.AutomatonSame(a, a)
		impl.FormatAutomaton(a)
		impl.Accepts(a, l)
		if !untouched() {
			t.Fatalf("an argument is changed: %.200v, %.200v or %v", before, beforeB, beforeWord)
		}
		for k, call := range automatonCalls(a, b) {
			result := call()
			if !untouched() {
				t.Fatalf("call %d changes its argument %.200v or %.200v", k, before, beforeB)
			}
			if overwriteAutomaton(result); !untouched() {
				t.Fatalf("the result of call %d shares memory with its argument %.200v or %.200v", k, before, beforeB)
			}
		}
		found, _ := impl.FindWord(a)
		live := impl.LiveStates(a)
		if !untouched() {
			t.Fatalf("FindWord or LiveStates changes its argument %.200v", before)
		}
		overwriteLasso(found)
		overwriteBools(live)
		if !untouched() {
			t.Fatalf("a result shares memory with its argument %.200v", before)
		}
	}
}

func TestAutomatonResultsShareNoMemory(t *testing.T) {
	list := memoryAutomata()
	for i, a := range list {
		b := list[(i*5+1)%len(list)]
		for k, call := range automatonCalls(a, b) {
			first, second := call(), call()
			want := copyAutomaton(second)
			noMemoryTwiceIn(t, automatonText(a), first, second, a, b)
			overwriteAutomaton(first)
			if third := call(); !equalAutomata(second, want) || !equalAutomata(third, want) {
				t.Fatalf("two results of call %d for %q share memory", k, automatonText(a))
			}
		}
		first, ok := impl.FindWord(a)
		second, _ := impl.FindWord(a)
		want := copyLasso(second)
		noIntTwice(t, automatonText(a), [][]int{first.Stem, first.Loop, second.Stem, second.Loop})
		overwriteLasso(first)
		if third, _ := impl.FindWord(a); !equalLassos(second, want) || !equalLassos(third, want) || impl.LassoValid(third) != ok {
			t.Fatalf("two results of FindWord for %q share memory", automatonText(a))
		}
		live := impl.LiveStates(a)
		overwriteBools(impl.LiveStates(a))
		if !slices.Equal(live, liveOf(a)) {
			t.Fatalf("two results of LiveStates for %q share memory", automatonText(a))
		}
	}
}

func TestTranslationsLeaveTheirFormulas(t *testing.T) {
	for _, before := range append(memoryFormulas(), mixedFormulas(300)...) {
		f := roomyFormula(before)
		first, _ := impl.TranslateFormula(f)
		second, ok := impl.TranslateFormula(f)
		basics, okBasics := impl.BasicFormulas(f)
		again, _ := impl.BasicFormulas(f)
		if !untouchedFormula(f, before) {
			t.Fatalf("%s is changed", formulaText(before))
		}
		noMemoryTwiceIn(t, formulaText(before), first, second)
		noFormulaTwice(t, formulaText(before), append(slices.Clone(basics), again...))
		overwriteAutomaton(first)
		overwriteFormulas(basics)
		if !untouchedFormula(f, before) {
			t.Fatalf("a result shares memory with %s", formulaText(before))
		}
		p, small := partsOfNormal(before)
		if small != okBasics || small && textsOf(again) != textsOf(p.basicFormulas()) || ok && !equalAutomata(second, translated(p)) {
			t.Fatalf("two results for %s share memory", formulaText(before))
		}
	}
}

// A caller may use one list for several purposes.
func TestAutomataOfSharedLists(t *testing.T) {
	edges := []impl.Transition{edge(0, 1, 1, 1), edge(1, 0, 0, 0), edge(1, 7, 5, 1)}
	accepting := []bool{false, true, true}
	initial := []int{0, 1, 2}
	a := impl.Automaton{Initial: initial[:1], Accepting: accepting[:2], Edges: edges[:2]}
	b := impl.Automaton{Initial: initial[:2], Accepting: accepting[:2], Edges: edges}
	for _, call := range automatonCalls(a, b) {
		result := call()
		noMemoryTwiceIn(t, "automata of shared lists", result, a)
		overwriteAutomaton(result)
	}
	if !slices.Equal(initial, []int{0, 1, 2}) || !slices.Equal(accepting, []bool{false, true, true}) || !slices.Equal(edges, []impl.Transition{edge(0, 1, 1, 1), edge(1, 0, 0, 0), edge(1, 7, 5, 1)}) {
		t.Errorf("the lists are changed: %v %v %v", initial, accepting, edges)
	}
	if got, ok := impl.UniteAutomata(a, b); !ok || !equalAutomata(got, united(a, b)) {
		t.Errorf("UniteAutomata = %v, %v", got, ok)
	}
	if got, ok := impl.IntersectAutomata(a, b); !ok || !equalAutomata(got, intersected(a, b)) {
		t.Errorf("IntersectAutomata = %v, %v", got, ok)
	}
}
