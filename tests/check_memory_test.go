package tests

import (
	"slices"
	"testing"

	"loop.example/ltlcheck/impl"
)

// roomyLabels returns a copy of labels in which every list is a part of a longer
// one.
func roomyLabels(labels []impl.Expr) []impl.Expr {
	return roomy(impl.Expr{Kids: labels}).Kids
}

// untouchedLabels reports whether labels are still the roomy copy of before.
func untouchedLabels(labels, before []impl.Expr) bool {
	return untouched(impl.Expr{Kids: labels}, impl.Expr{Kids: before})
}

func roomyTrace(t impl.Trace) impl.Trace {
	return impl.Trace{Stem: roomyInts(t.Stem), Loop: roomyInts(t.Loop)}
}

func untouchedTrace(t, before impl.Trace) bool {
	return untouchedInts(t.Stem, before.Stem) && untouchedInts(t.Loop, before.Loop)
}

func copyTrace(t impl.Trace) impl.Trace {
	return impl.Trace{Stem: slices.Clone(t.Stem), Loop: slices.Clone(t.Loop)}
}

func overwriteTrace(t impl.Trace) {
	overwriteInts(t.Stem)
	overwriteInts(t.Loop)
}

// memoryGraphs has a sample of the graphs of all kinds.
func memoryGraphs(t *testing.T) []impl.Graph {
	t.Helper()
	list := []impl.Graph{ring(1), ring(60), complete(5), exampleGraph()}
	for i, g := range labelledGraphs(t) {
		if i%9 == 0 {
			list = append(list, g)
		}
	}
	return list
}

func TestCheckArgumentsStay(t *testing.T) {
	labels := append(variedLabels(t), sampleLabels()[:40]...)
	automata, formulas := append(memoryAutomata(), rareAutomata(30)...), checkedFormulas(t)
	for i, graphBefore := range memoryGraphs(t) {
		labelsBefore, automatonBefore, formulaBefore := labels[i%len(labels)], automata[i*7%len(automata)], formulas[i*5%len(formulas)]
		g, l, a, f := roomyGraph(graphBefore), roomyLabels(labelsBefore), roomyAutomaton(automatonBefore), roomyFormula(formulaBefore)
		untouchedAll := func() bool {
			return untouchedGraph(g, graphBefore) && untouchedLabels(l, labelsBefore) && untouchedAutomaton(a, automatonBefore) && untouchedFormula(f, formulaBefore)
		}
		impl.LabelsValid(l)
		impl.LabelState(g.States[0], l)
		letters, _ := impl.LabelGraph(g, l)
		found, _ := impl.FindTrace(g, l, a)
		_, example := impl.CheckFormula(g, l, f)
		if !untouchedAll() {
			t.Fatalf("an argument is changed: %v,%s, %q or %s", graphBefore, labelsText(labelsBefore), automatonText(automatonBefore), formulaText(formulaBefore))
		}
		for _, traceBefore := range []impl.Trace{found, example, {}, {Loop: []int{0, 0}}} {
			trace := roomyTrace(traceBefore)
			impl.TraceValid(g, trace)
			word, _ := impl.TraceWord(g, l, trace)
			overwriteLasso(word)
			if !untouchedTrace(trace, traceBefore) || !untouchedAll() {
				t.Fatalf("TraceValid or TraceWord changes %v,%s or %s", graphBefore, labelsText(labelsBefore), traceText(traceBefore))
			}
		}
		overwriteInts(letters)
		overwriteTrace(found)
		overwriteTrace(example)
		if !untouchedAll() {
			t.Fatalf("a result shares memory with %v,%s, %q or %s", graphBefore, labelsText(labelsBefore), automatonText(automatonBefore), formulaText(formulaBefore))
		}
	}
}

func TestInvalidCheckArgumentsStay(t *testing.T) {
	l, a, f := roomyLabels(plainLabels()), roomyAutomaton(automatonOf("1|0|0|0 0 0 0")), roomyFormula(atom(0))
	for name, before := range invalidGraphs() {
		g, trace := roomyGraph(before), roomyTrace(traceFrom("0 (0)"))
		impl.LabelGraph(g, l)
		impl.TraceValid(g, trace)
		impl.TraceWord(g, l, trace)
		impl.FindTrace(g, l, a)
		impl.CheckFormula(g, l, f)
		if !untouchedGraph(g, before) || !untouchedTrace(trace, traceFrom("0 (0)")) {
			t.Errorf("%s: an argument is changed", name)
		}
	}
	for name, before := range map[string][]impl.Expr{"one": {variable(0)}, "four": {constant(1), constant(1), constant(1), constant(1)}, "zero values": make([]impl.Expr, 3), "a variable 3": {constant(0), not(variable(3)), constant(0)}} {
		labels := roomyLabels(before)
		impl.LabelsValid(labels)
		impl.LabelState(stateOf([]int{0}, 0, 0, 0), labels)
		impl.LabelGraph(ring(2), labels)
		impl.FindTrace(ring(2), labels, a)
		impl.CheckFormula(ring(2), labels, f)
		impl.CheckSystem(exampleSystem(), labels, f)
		if !untouchedLabels(labels, before) {
			t.Errorf("%s: the labels are changed", name)
		}
	}
	if !untouchedLabels(l, plainLabels()) || !untouchedAutomaton(a, automatonOf("1|0|0|0 0 0 0")) || !untouchedFormula(f, atom(0)) {
		t.Error("an argument is changed")
	}
}

func TestLabelStateLeavesTheState(t *testing.T) {
	for _, before := range []impl.State{stateOf([]int{0, 1}, 1, 2, 3), stateOf(nil, 0, 0, 0), stateOf([]int{2}, 1, 2), stateOf([]int{2}, 1, 2, 3, 0), stateOf([]int{-1}, 4, 4, 4)} {
		for _, labels := range sampleLabels()[:30] {
			st := roomyState(before)
			impl.LabelState(st, labels)
			if !untouchedState(st, before) {
				t.Fatalf("LabelState changes %v", before)
			}
		}
	}
}

// Each call has its own results, and these have their own lists.
func TestCheckResultsShareNoMemory(t *testing.T) {
	labels, automata, formulas := variedLabels(t), append(mixedAutomata(60), rareAutomata(60)...), checkedFormulas(t)
	found := 0
	for i, g := range memoryGraphs(t) {
		l, a, f := labels[i%len(labels)], automata[i*7%len(automata)], formulas[i*5%len(formulas)]
		letters, _ := impl.LabelGraph(g, l)
		again, _ := impl.LabelGraph(g, l)
		overwriteInts(letters)
		if !slices.Equal(again, lettersOf(g, l)) {
			t.Fatalf("two results of LabelGraph of %v share memory", g)
		}
		for _, call := range []func() impl.Trace{
			func() impl.Trace { trace, _ := impl.FindTrace(g, l, a); return trace },
			func() impl.Trace { _, trace := impl.CheckFormula(g, l, f); return trace },
		} {
			first, second := call(), call()
			want := copyTrace(second)
			noIntTwice(t, traceText(want), [][]int{first.Stem, first.Loop, second.Stem, second.Loop})
			word, ok := impl.TraceWord(g, l, second)
			other, _ := impl.TraceWord(g, l, second)
			noIntTwice(t, traceText(want), [][]int{word.Stem, word.Loop, other.Stem, other.Loop, second.Stem, second.Loop})
			overwriteTrace(first)
			overwriteLasso(word)
			if third := call(); !equalTraces(second, want) || !equalTraces(third, want) || ok && !isWordOf(other, lettersOf(g, l), want) {
				t.Fatalf("two results for %v share memory", g)
			}
			found += bit(len(want.Stem) > 0 && len(want.Loop) > 1)
		}
	}
	if found < 20 {
		t.Errorf("only %d traces with a stem and a loop of several states", found)
	}
}

func TestCheckSystemLeavesItsArguments(t *testing.T) {
	labels, formulas := variedLabels(t), checkedFormulas(t)
	for i, systemBefore := range graphSystems(t) {
		labelsBefore := labels[i%len(labels)]
		for j := i % 199; j < len(formulas); j += 199 {
			s, l, f := roomySystem(systemBefore), roomyLabels(labelsBefore), roomyFormula(formulas[j])
			_, stem, loop := impl.CheckSystem(s, l, f)
			overwriteStates(stem)
			overwriteStates(loop)
			if !untouchedSystem(s, systemBefore) || !untouchedLabels(l, labelsBefore) || !untouchedFormula(f, formulas[j]) {
				t.Fatalf("CheckSystem changes %q,%s or %s", systemTextOf(systemBefore), labelsText(labelsBefore), formulaText(formulas[j]))
			}
		}
	}
}

// A state that a counterexample has several times has its own memory each time.
func TestStatesOfCounterexamplesShareNoMemory(t *testing.T) {
	labels, formulas := variedLabels(t), checkedFormulas(t)
	repeated := 0
	for i, s := range graphSystems(t) {
		l := labels[i%len(labels)]
		for j := i % 151; j < len(formulas); j += 151 {
			verdict, stem, loop := impl.CheckSystem(s, l, formulas[j])
			if verdict != impl.VerdictFails {
				continue
			}
			_, otherStem, otherLoop := impl.CheckSystem(s, l, formulas[j])
			wantStem, wantLoop := copyStates(otherStem), copyStates(otherLoop)
			noIntTwice(t, systemTextOf(s), slices.Concat(stateLists(stem), stateLists(loop), stateLists(otherStem), stateLists(otherLoop)))
			overwriteStates(stem)
			overwriteStates(loop)
			if !slices.EqualFunc(otherStem, wantStem, equalStates) || !slices.EqualFunc(otherLoop, wantLoop, equalStates) {
				t.Fatalf("%q: two results of CheckSystem share memory", systemTextOf(s))
			}
			all := slices.Concat(otherStem, otherLoop)
			for k, st := range all {
				repeated += bit(indexOfState(all, st) < k)
			}
		}
	}
	if repeated < 80 {
		t.Errorf("only %d states stand in a counterexample for a second time", repeated)
	}
}

// A caller may use one list for several purposes.
func TestCheckOfSharedLists(t *testing.T) {
	all := []int{0, 1, 2}
	st := impl.State{Locs: all, Vals: all}
	g := impl.Graph{States: []impl.State{st, st, st}, Next: [][]int{all, all, all}}
	letters, ok := impl.LabelGraph(g, plainLabels())
	if !ok || !slices.Equal(letters, []int{6, 6, 6}) {
		t.Errorf("LabelGraph = %v, %v", letters, ok)
	}
	trace := impl.Trace{Stem: all, Loop: all}
	if word, ok := impl.TraceWord(g, plainLabels(), trace); !impl.TraceValid(g, trace) || !ok || lassoText(word) != "666(666)" {
		t.Errorf("TraceWord = %v, %v", word, ok)
	}
	a := impl.Automaton{Initial: all, Accepting: []bool{false, true, false}, Edges: []impl.Transition{edge(0, 0, 0, 1), edge(1, 0, 0, 2), edge(2, 0, 0, 1)}}
	found, ok := impl.FindTrace(g, plainLabels(), a)
	if want, _ := foundTrace(g, letters, a); !ok || !equalTraces(found, want) {
		t.Errorf("FindTrace = %s, %v", traceText(found), ok)
	}
	overwriteTrace(found)
	overwriteInts(letters)
	e := binary(impl.ExprLess, variable(0), variable(0))
	s := systemOf(process(2, plain(0, 1)))
	s.Init = all
	verdict, stem, loop := impl.CheckSystem(s, []impl.Expr{e, e, e}, atom(0))
	if verdict != impl.VerdictFails || statesText(slices.Concat(stem, loop)) != "0/012 1/012" {
		t.Errorf("CheckSystem = %d, %v, %v", verdict, stem, loop)
	}
	overwriteStates(stem)
	overwriteStates(loop)
	if !slices.Equal(all, []int{0, 1, 2}) {
		t.Errorf("the list is changed: %v", all)
	}
}
