package tests

import (
	"slices"
	"testing"

	"loop.example/ltlcheck/impl"
)

// statesAt returns the states of a graph that a path names.
func statesAt(g impl.Graph, path []int) []impl.State {
	var list []impl.State
	for _, state := range path {
		list = append(list, g.States[state])
	}
	return list
}

// checkSystemVerdict compares CheckSystem with the tests' own graph and verdict.
func checkSystemVerdict(t *testing.T, s impl.System, labels []impl.Expr, f impl.Formula) int {
	t.Helper()
	g := graphOf(s)
	want, trace := impl.VerdictLarge, impl.Trace{}
	if len(g.States) <= impl.MaxStates {
		want, trace = verdictOf(g, labels, f)
	}
	verdict, stem, loop := impl.CheckSystem(s, labels, f)
	if verdict != want || !slices.EqualFunc(stem, statesAt(g, trace.Stem), equalStates) || !slices.EqualFunc(loop, statesAt(g, trace.Loop), equalStates) {
		t.Fatalf("CheckSystem of %q with%s and %s = %d, %s (%s), want %d, %s", systemTextOf(s), labelsText(labels), formulaText(f), verdict, statesText(stem), statesText(loop), want, traceText(trace))
	}
	return verdict
}

// The word of the only execution is 5774(4).
func TestCheckSystemOfTheExample(t *testing.T) {
	const around = "00/000 10/110 00/110 10/220"
	s, labels := mustParseSystem(t, exampleText), labelsOf(t, "(x<2)", "(x=1)", "(x=y)")
	for text, want := range map[string]int{
		"Gp": impl.VerdictFails, "(pU!p)": impl.VerdictHolds, "F!p": impl.VerdictHolds, "Gr": impl.VerdictHolds, "GFq": impl.VerdictFails, "FG!q": impl.VerdictHolds, "Xq": impl.VerdictHolds, "XXXq": impl.VerdictFails,
		"p": impl.VerdictHolds, "q": impl.VerdictFails, "XXp": impl.VerdictHolds, "XXXp": impl.VerdictFails, "FG!p": impl.VerdictHolds, "G(p|Xr)": impl.VerdictHolds, "(qRp)": impl.VerdictHolds, "GFp": impl.VerdictFails,
	} {
		verdict, stem, loop := impl.CheckSystem(s, labels, mustParseFormula(t, text))
		if verdict != want || (verdict == impl.VerdictFails) != (len(loop) > 0) || verdict != impl.VerdictFails && len(stem) > 0 {
			t.Errorf("CheckSystem of %s = %d, %v, %v", text, verdict, stem, loop)
		}
	}
	// The counterexamples of the last chapter's example.
	for _, text := range []string{"Gp", "GFq"} {
		verdict, stem, loop := impl.CheckSystem(s, labels, mustParseFormula(t, text))
		if verdict != impl.VerdictFails || statesText(stem) != around || statesText(loop) != "00/220" {
			t.Errorf("CheckSystem of %s = %d, %s (%s)", text, verdict, statesText(stem), statesText(loop))
		}
	}
	word := lassoFrom("5774(4)")
	for _, f := range append(smallFormulas(), checkedFormulas(t)...) {
		verdict, _, _ := impl.CheckSystem(s, labels, f)
		if verdict != impl.VerdictLarge && (verdict == impl.VerdictHolds) != mustSatisfy(t, word, f) {
			t.Fatalf("CheckSystem of %s = %d", formulaText(f), verdict)
		}
	}
}

func TestCheckSystem(t *testing.T) {
	const (
		stays  = "system 1 0 0\nprocess 1\n"
		leaves = "system 0 0 0\nprocess 2\nedge 0 0 1 - -\nedge 0 1 1 x:=1 -\n"
		swings = "system 0 0 0\nprocess 2\nedge 0 1 1 x:=1 -\nedge 1 0 1 x:=0 -\n"
		two    = "system 0 0 0\nprocess 1\nedge 0 0 1 x:=(x+1) -\nprocess 2\nedge 0 1 1 y:=1 -\nedge 1 0 1 y:=0 -\n"
	)
	for _, c := range []struct {
		system, formula string
		want            int
		stem, loop      string
	}{
		// A deadlock is repeated forever.
		{stays, "Gp", impl.VerdictHolds, "", ""}, {stays, "F!p", impl.VerdictFails, "", "0/100"}, {stays, "Xq", impl.VerdictFails, "", "0/100"}, {"system 0 0 0\nprocess 2\nedge 0 1 1 x:=2 -\n", "G!p", impl.VerdictFails, "0/000", "1/200"},
		{"system 0 0 0\nprocess 2\nedge 0 1 1 x:=2 -\n", "XGp", impl.VerdictHolds, "", ""}, {"system 0 0 0\nprocess 2\nedge 0 1 1 x:=2 -\n", "GF!p", impl.VerdictFails, "0/000", "1/200"},
		// A loop of a single state, which an execution may leave or not.
		{leaves, "Fp", impl.VerdictFails, "", "0/000"}, {leaves, "G!p", impl.VerdictFails, "0/000", "1/100"}, {leaves, "(G!p|FGp)", impl.VerdictHolds, "", ""}, {leaves, "(Fp|G!p)", impl.VerdictHolds, "", ""},
		{swings, "GFp", impl.VerdictHolds, "", ""}, {swings, "FGp", impl.VerdictFails, "", "0/000 1/100"}, {swings, "G(!p|X!p)", impl.VerdictHolds, "", ""}, {swings, "p", impl.VerdictFails, "", "0/000 1/100"},
		// Steps of one process only, forever.
		{two, "GFq", impl.VerdictFails, "", "00/000 00/100 00/200 00/300"}, {two, "GFp", impl.VerdictFails, "", "00/000 01/010"}, {two, "GF(p|q)", impl.VerdictHolds, "", ""}, {two, "G(!q|!r)", impl.VerdictHolds, "", ""},
	} {
		s, f := mustParseSystem(t, c.system), mustParseFormula(t, c.formula)
		verdict, stem, loop := impl.CheckSystem(s, plainLabels(), f)
		if verdict != c.want || statesText(stem) != c.stem || statesText(loop) != c.loop {
			t.Errorf("CheckSystem of %q and %s = %d, %s (%s)", c.system, c.formula, verdict, statesText(stem), statesText(loop))
		}
		checkSystemVerdict(t, s, plainLabels(), f)
	}
}

func TestCheckSystemOfAllSystems(t *testing.T) {
	labels, formulas := variedLabels(t), checkedFormulas(t)
	verdicts := map[int]int{}
	large := 0
	for i, s := range graphSystems(t) {
		large += bit(len(graphOf(s).States) > impl.MaxStates)
		for j := i % 401; j < len(formulas); j += 401 {
			verdicts[checkSystemVerdict(t, s, labels[(i+j)%len(labels)], formulas[j])]++
		}
	}
	if verdicts[impl.VerdictHolds] < 150 || verdicts[impl.VerdictFails] < 150 || verdicts[impl.VerdictLarge] < 100 || large < 15 {
		t.Errorf("the verdicts are %v, and %d systems are too large", verdicts, large)
	}
}

// Promise 8 for systems: the states of a counterexample are an execution, and
// their letters violate the formula.
func TestCounterexamplesOfSystemsAreExecutions(t *testing.T) {
	labels, formulas := variedLabels(t), checkedFormulas(t)
	count := 0
	for i, s := range graphSystems(t) {
		steps := existingSteps(s)
		for j := i % 97; j < len(formulas); j += 97 {
			f, l := formulas[j], labels[(i+j)%len(labels)]
			verdict, stem, loop := impl.CheckSystem(s, l, f)
			if verdict != impl.VerdictFails {
				continue
			}
			count++
			var w word
			for _, st := range stem {
				w.stem = append(w.stem, letterOf(st, l))
			}
			for _, st := range loop {
				w.loop = append(w.loop, letterOf(st, l))
			}
			if meaning(f, w)[0] {
				t.Fatalf("CheckSystem of %q and %s: %s (%s) satisfies the formula", systemTextOf(s), formulaText(f), statesText(stem), statesText(loop))
			}
			checkExecution(t, s, steps, slices.Concat(stem, loop, loop[:1]))
		}
	}
	if count < 1000 {
		t.Errorf("only %d counterexamples", count)
	}
}

// checkExecution checks that the states begin with the initial one and that each
// is followed by one after a step, or by itself if it is a deadlock.
func checkExecution(t *testing.T, s impl.System, steps []impl.Step, states []impl.State) {
	t.Helper()
	if !equalStates(states[0], stateOf(make([]int, len(s.Processes)), s.Init...)) {
		t.Fatalf("%q: %s does not begin with the initial state", systemTextOf(s), statesText(states))
	}
	for i, st := range states[:len(states)-1] {
		after := statesAfter(s, steps, st)
		if len(after) == 0 {
			after = []impl.State{st}
		}
		if indexOfState(after, states[i+1]) < 0 {
			t.Fatalf("%q: %s is no execution", systemTextOf(s), statesText(states))
		}
	}
}

// A graph may have MaxStates states, but not more.
func TestCheckSystemAtTheLimit(t *testing.T) {
	formulas := []impl.Formula{truth(), formulaOf(impl.FormulaNot, truth()), formulaOf(impl.FormulaAlways, atom(0)), prefixed(5, impl.FormulaNext, atom(0))}
	for states := 57; states <= 64; states++ {
		for _, f := range formulas {
			verdict := checkSystemVerdict(t, lineSystem(t, states), plainLabels(), f)
			if states > 60 && verdict != impl.VerdictLarge {
				t.Errorf("%d states: CheckSystem of %s = %d", states, formulaText(f), verdict)
			}
		}
	}
	for _, f := range formulas[:3] {
		if verdict := checkSystemVerdict(t, grid60(t), plainLabels(), f); verdict == impl.VerdictLarge {
			t.Errorf("60 states: CheckSystem of %s = %d", formulaText(f), verdict)
		}
		if verdict := checkSystemVerdict(t, grid61(t), plainLabels(), f); verdict != impl.VerdictLarge {
			t.Errorf("61 states: CheckSystem of %s = %d", formulaText(f), verdict)
		}
	}
}

// An argument that is not valid counts before a system that is too large.
func TestCheckSystemOfInvalidArguments(t *testing.T) {
	check := func(what string, s impl.System, labels []impl.Expr, f impl.Formula) {
		t.Helper()
		if verdict, stem, loop := impl.CheckSystem(s, labels, f); verdict != impl.VerdictInvalid || len(stem) != 0 || len(loop) != 0 {
			t.Errorf("%s: CheckSystem = %d, %v, %v", what, verdict, stem, loop)
		}
	}
	never, large := formulaOf(impl.FormulaNot, truth()), prefixed(5, impl.FormulaNext, atom(0))
	for name, s := range invalidSystems() {
		for _, f := range []impl.Formula{truth(), never, large, {}} {
			check("s: "+name, s, plainLabels(), f)
		}
		check("s and labels: "+name, s, nil, never)
	}
	systems := map[string]impl.System{"the example": exampleSystem(), "61 states": grid61(t)}
	for size, s := range systems {
		for name, labels := range invalidLabels() {
			check(size+", labels: "+name, s, labels, never)
			check(size+", large formula, labels: "+name, s, labels, large)
		}
		for name, f := range invalidFormulas() {
			check(size+", f: "+name, s, plainLabels(), f)
			check(size+", labels and f: "+name, s, nil, f)
		}
	}
}
