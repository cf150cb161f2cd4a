package tests

import (
	"slices"
	"testing"

	"loop.example/ltlcheck/impl"
)

// negationOf is the test's own negation of a formula.
func negationOf(f impl.Formula) impl.Formula {
	if f.Kind == impl.FormulaNot {
		return f.Kids[0]
	}
	return formulaOf(impl.FormulaNot, f)
}

// violations returns the automaton of the negation of a formula, by the tests'
// own construction, unless one of the limits is in the way.
func violations(f impl.Formula) (impl.Automaton, bool) {
	p, ok := partsOfNormal(negationOf(f))
	if !ok {
		return impl.Automaton{}, false
	}
	a := translated(p)
	return a, len(a.Accepting) <= 64 && len(a.Edges) <= 2048
}

// verdictOf is the verdict of a formula for a valid graph, and the
// counterexample, by the tests' own construction and search.
func verdictOf(g impl.Graph, labels []impl.Expr, f impl.Formula) (int, impl.Trace) {
	a, ok := violations(f)
	if !ok {
		return impl.VerdictLarge, impl.Trace{}
	}
	trace, found := foundTrace(g, lettersOf(g, labels), a)
	if found {
		return impl.VerdictFails, trace
	}
	return impl.VerdictHolds, impl.Trace{}
}

// tracesOf returns all traces of a graph with stems and loops of at most so many
// states together; the limit is the largest one for which they are not too many.
func tracesOf(g impl.Graph) []impl.Trace {
	var traces []impl.Trace
	paths := [][]int{{0}}
	for len(traces) < 150 && len(paths[0]) < 10 {
		var longer [][]int
		for _, path := range paths {
			next := g.Next[path[len(path)-1]]
			for k, state := range path {
				if slices.Contains(next, state) {
					traces = append(traces, impl.Trace{Stem: path[:k], Loop: path[k:]})
				}
			}
			for _, state := range next {
				longer = append(longer, append(slices.Clone(path), state))
			}
		}
		paths = longer
	}
	return traces
}

// wordsOf returns the different words of these traces.
func wordsOf(g impl.Graph, labels []impl.Expr) []impl.Lasso {
	letters := lettersOf(g, labels)
	known := map[string]bool{}
	var words []impl.Lasso
	for _, trace := range tracesOf(g) {
		w := wordOf(letters, trace)
		l := reducedOf(impl.Lasso{Stem: w.stem, Loop: w.loop})
		if !known[lassoText(l)] {
			known[lassoText(l)] = true
			words = append(words, l)
		}
	}
	return words
}

// checkPromise checks what a verdict says about the traces of the graph, of
// which words has the words of some.
func checkPromise(t *testing.T, g impl.Graph, labels []impl.Expr, f impl.Formula, words []impl.Lasso) int {
	t.Helper()
	verdict, trace := impl.CheckFormula(g, labels, f)
	if verdict != impl.VerdictFails && !isZeroTrace(trace) {
		t.Fatalf("CheckFormula of %v and %s = %d, %s", g, formulaText(f), verdict, traceText(trace))
	}
	switch verdict {
	case impl.VerdictFails:
		if !isTrace(g, trace) || !impl.TraceValid(g, trace) {
			t.Fatalf("CheckFormula of %v and %s: %s is no trace", g, formulaText(f), traceText(trace))
		}
		w := wordOf(lettersOf(g, labels), trace)
		if meaning(f, w)[0] {
			t.Fatalf("CheckFormula of %v and %s: %s satisfies the formula", g, formulaText(f), traceText(trace))
		}
		word, ok := impl.TraceWord(g, labels, trace)
		if short := len(w.stem) <= 80 && len(w.loop) <= 80; ok != short || ok && mustSatisfy(t, word, f) {
			t.Fatalf("CheckFormula of %v and %s: the word of %s is %v, %v", g, formulaText(f), traceText(trace), word, ok)
		}
	case impl.VerdictHolds:
		for _, l := range words {
			if !mustSatisfy(t, l, f) {
				t.Fatalf("CheckFormula of %v and %s: the word %s of a trace does not satisfy the formula", g, formulaText(f), lassoText(l))
			}
		}
	case impl.VerdictLarge:
		if _, ok := violations(f); ok {
			t.Fatalf("CheckFormula of %v and %s = VerdictLarge", g, formulaText(f))
		}
	default:
		t.Fatalf("CheckFormula of %v and %s = %d", g, formulaText(f), verdict)
	}
	return verdict
}

// checkFormula compares the result with the tests' own one, too.
func checkFormula(t *testing.T, g impl.Graph, labels []impl.Expr, f impl.Formula) int {
	t.Helper()
	verdict, trace := impl.CheckFormula(g, labels, f)
	want, example := verdictOf(g, labels, f)
	if verdict != want || !equalTraces(trace, example) {
		t.Fatalf("CheckFormula of %v with%s and %s = %d, %s, want %d, %s", g, labelsText(labels), formulaText(f), verdict, traceText(trace), want, traceText(example))
	}
	return verdict
}

// checkedFormulas returns formulas of all kinds, most of which are not too large.
func checkedFormulas(t *testing.T) []impl.Formula {
	t.Helper()
	var list []impl.Formula
	for _, text := range []string{
		"Gp", "Fp", "GFp", "FGp", "(pUq)", "(pRq)", "G(p|q)", "F(p&Xq)", "G(!p|Xq)", "G(!p|Fq)", "(GFp|FGq)", "(Fp&Fq)", "G(p|Xp)", "X(pUq)", "(pU(qUr))", "((pUq)Ur)", "XXp", "XXXq", "(p|X!p)", "F(q|r)", "GF(p|q)", "!(pUXq)", "G!(p&q)", "(TU!p)", "FGr", "!GFp",
	} {
		list = append(list, mustParseFormula(t, text))
	}
	for i, f := range smallFormulas() {
		if i%17 == 0 {
			list = append(list, f)
		}
	}
	return append(list, mixedFormulas(500)...)
}

func TestCheckFormula(t *testing.T) {
	const (
		holds = impl.VerdictHolds
		fails = impl.VerdictFails
		fork  = "1 1 2|1 1|2 2"
		cycle = "1 1|2 2|4 0"
		leave = "1 0 1|2 1"
	)
	for _, c := range []struct {
		graph, formula string
		want           int
	}{
		{"0 0", "T", holds}, {"0 0", "!T", fails}, {"0 0", "p", fails}, {"0 0", "!p", holds}, {"1 0", "p", holds}, {"1 0", "Gp", holds}, {"1 0", "Fp", holds}, {"1 0", "Xp", holds}, {"1 0", "q", fails}, {"1 0", "G!q", holds}, {"1 0", "F!p", fails}, {"7 0", "G((p&q)&r)", holds},
		// All traces have to satisfy it, so a formula and its negation can both fail.
		{fork, "p", holds}, {fork, "Xp", fails}, {fork, "Xq", fails}, {fork, "X!p", fails}, {fork, "X(p|q)", holds}, {fork, "(Xp|Xq)", holds}, {fork, "X(Gp|Gq)", holds}, {fork, "Gp", fails}, {fork, "FGp", fails}, {fork, "!FGp", fails}, {fork, "F(Gp|Gq)", holds},
		{fork, "(Gp|Fq)", holds}, {fork, "Fq", fails}, {fork, "!Fq", fails}, {fork, "F(p|q)", holds}, {fork, "G(!q|Gq)", holds}, {fork, "(pUq)", fails}, {fork, "(qRp)", fails}, {fork, "(pU(p|q))", holds},
		{cycle, "GFp", holds}, {cycle, "GFq", holds}, {cycle, "FGp", fails}, {cycle, "G(!p|Xq)", holds}, {cycle, "G(!q|Xr)", holds}, {cycle, "G(!q|Xp)", fails}, {cycle, "XXXp", holds}, {cycle, "XXp", fails}, {cycle, "(pU(qUr))", holds}, {cycle, "((p|q)Ur)", holds}, {cycle, "(pUr)", fails}, {cycle, "G(pUq)", fails}, {cycle, "G((p|r)Uq)", holds},
		// A loop that can be left, and does not have to be.
		{leave, "Gp", fails}, {leave, "Fq", fails}, {leave, "(pUq)", fails}, {leave, "G(p|q)", holds}, {leave, "(Gp|Fq)", holds}, {leave, "(Gp|FGq)", holds}, {leave, "(Gp|(pUq))", holds}, {leave, "G(!q|Xq)", holds}, {leave, "GF(p|q)", holds}, {leave, "GFp", fails}, {leave, "G(!p|Xp)", fails},
		// What holds in states that cannot be reached does not matter.
		{"1 0|0 1", "Gp", holds}, {"1 0|0 0 1", "GFp", holds}, {"0 0|1 1", "Fp", fails}, {"0 0|1 1", "G!p", holds},
	} {
		g, f := graphFrom(c.graph), mustParseFormula(t, c.formula)
		if got, trace := impl.CheckFormula(g, plainLabels(), f); got != c.want {
			t.Errorf("CheckFormula of %s and %s = %d, %s", c.graph, c.formula, got, traceText(trace))
		}
		checkPromise(t, g, plainLabels(), f, wordsOf(g, plainLabels()))
		checkFormula(t, g, plainLabels(), f)
	}
}

// Counterexamples of which the search leaves no choice.
func TestCounterexamplesOfFormulas(t *testing.T) {
	for _, c := range []struct{ graph, formula, want string }{
		{"0 0", "p", "(0)"}, {"0 0", "!T", "(0)"}, {"0 0", "Gp", "(0)"}, {"0 0", "Fp", "(0)"}, {"0 0", "GFp", "(0)"}, {"0 1|0 0", "p", "(0 1)"}, {"0 1|0 1", "p", "0 (1)"}, {"0 1|0 2|0 2", "Fp", "0 1 (2)"}, {"1 1|0 0", "FGp", "0 (1 0)"}, {"0 1|1 0", "FGp", "(0 1)"},
		// Each state on the way shows a counterexample that is not yet complete.
		{"1 1|1 2|1 3|0 3", "Gp", "0 1 2 (3)"}, {"1 1 2|1 1|0 2", "Gp", "0 (2)"}, {"1 2 1|0 1|0 2", "Gp", "0 (2)"}, {"1 1 2|0 1|0 2", "Gp", "0 (1)"}, {"2 1|2 2|0 2", "Gq", "0 1 (2)"},
		// A loop that could be left, and a state where the trace stays.
		{"1 0 1|2 1", "Fq", "(0)"}, {"1 0 1|2 1", "(pUq)", "(0)"}, {"1 1|1 1 2|2 2", "Fq", "0 (1)"},
	} {
		g, f := graphFrom(c.graph), mustParseFormula(t, c.formula)
		if verdict, trace := impl.CheckFormula(g, plainLabels(), f); verdict != impl.VerdictFails || traceText(trace) != c.want {
			t.Errorf("CheckFormula of %s and %s = %d, %s, want %s", c.graph, c.formula, verdict, traceText(trace), c.want)
		}
		checkFormula(t, g, plainLabels(), f)
	}
}

// Promise 8: a formula holds exactly if all traces satisfy it, and a
// counterexample is a trace that violates it.
func TestVerdictsAreThoseOfTheTraces(t *testing.T) {
	labels, formulas := variedLabels(t), checkedFormulas(t)
	verdicts := map[int]int{}
	seen := map[string]map[int]bool{}
	for i, g := range labelledGraphs(t) {
		l := labels[i%len(labels)]
		words := wordsOf(g, l)
		for j := i % 79; j < len(formulas); j += 79 {
			verdict := checkPromise(t, g, l, formulas[j], words)
			verdicts[verdict]++
			text := formulaText(formulas[j])
			if seen[text] == nil {
				seen[text] = map[int]bool{}
			}
			seen[text][verdict] = true
		}
	}
	both := 0
	for _, some := range seen {
		both += bit(some[impl.VerdictHolds] && some[impl.VerdictFails])
	}
	if verdicts[impl.VerdictHolds] < 3000 || verdicts[impl.VerdictFails] < 3000 || verdicts[impl.VerdictLarge] < 1000 || both < 200 {
		t.Errorf("the verdicts are %v, and only %d formulas hold for some graphs and fail for others", verdicts, both)
	}
}

func TestCheckFormulaOfSampleGraphs(t *testing.T) {
	labels, formulas := variedLabels(t), checkedFormulas(t)
	verdicts := map[int]int{}
	for i, g := range labelledGraphs(t) {
		for j := i % 163; j < len(formulas); j += 163 {
			verdicts[checkFormula(t, g, labels[(i+j)%len(labels)], formulas[j])]++
		}
	}
	if verdicts[impl.VerdictHolds] < 1000 || verdicts[impl.VerdictFails] < 1000 || verdicts[impl.VerdictLarge] < 300 {
		t.Errorf("the verdicts are %v", verdicts)
	}
}

// If each state has one successor, there is one word, and the verdict is whether
// it satisfies the formula.
func TestCheckFormulaOfGraphsWithOneTrace(t *testing.T) {
	n := &numbers{last: 24}
	formulas := append(checkedFormulas(t), smallFormulas()...)
	large := 0
	for i, f := range formulas {
		states := 1 + n.below(6)
		next := make([][]int, states)
		for i := range next {
			next[i] = []int{(i + 1) % states}
		}
		back := n.below(states)
		next[states-1] = []int{back}
		g := withVals(n, linked(next...))
		l := variedLabels(t)[i%7]
		letters := lettersOf(g, l)
		want := impl.VerdictHolds
		if !meaning(f, word{letters[:back], letters[back:]})[0] {
			want = impl.VerdictFails
		}
		got, trace := impl.CheckFormula(g, l, f)
		if got == impl.VerdictLarge {
			large++
		} else if got != want || got == impl.VerdictFails && meaning(f, wordOf(letters, trace))[0] {
			t.Fatalf("CheckFormula of %v with the letters %v and %s = %d, %s", next, letters, formulaText(f), got, traceText(trace))
		}
	}
	if large > len(formulas)/2 {
		t.Errorf("%d of %d formulas are too large", large, len(formulas))
	}
}

// Graphs of up to MaxStates states, with the formulas that have the largest
// automata.
func TestCheckFormulaOfLargeGraphs(t *testing.T) {
	n := &numbers{last: 25}
	graphs := []impl.Graph{withVals(n, ring(60)), withVals(n, complete(60)), graphOf(grid60(t)), graphOf(cycle60(t)), withVals(n, mixedGraph(n, 60, 3)), withVals(n, mixedGraph(n, 50, 5))}
	verdicts := map[int]int{}
	for i, g := range graphs {
		for j, text := range []string{"Gp", "GFp", "FGp", "(pUq)", "G(!p|Fq)", "(GFp|FGq)", "XXXXp", "!XXFFp", "FX((pRq)|q)", "GF(p&Xq)", "G(p|(q|r))", "FGr", "GGp", "F(p|!p)", "G(qRX(r&T))"} {
			f := mustParseFormula(t, text)
			for _, l := range [][]impl.Expr{variedLabels(t)[(i+j)%7], labelsOf(t, "1", "(x<3)", "!((x=3)&(y=3))")} {
				verdicts[checkFormula(t, g, l, f)]++
				verdict, trace := impl.CheckFormula(g, l, f)
				if verdict == impl.VerdictFails && (!isTrace(g, trace) || meaning(f, wordOf(lettersOf(g, l), trace))[0]) {
					t.Errorf("CheckFormula of %v and %s: the counterexample is %s", g.Next, text, traceText(trace))
				}
			}
		}
	}
	if verdicts[impl.VerdictHolds] < 40 || verdicts[impl.VerdictFails] < 40 {
		t.Errorf("the verdicts are %v", verdicts)
	}
}

// largeFormulas has formulas that are valid, but whose negation or its automaton
// is too large.
func largeFormulas(t *testing.T) map[string]impl.Formula {
	t.Helper()
	p, notP := atom(0), formulaOf(impl.FormulaNot, atom(0))
	list := map[string]impl.Formula{
		"12 nodes":             formulaOf(impl.FormulaAnd, fullFormula(3, impl.FormulaOr, p), prefixed(3, impl.FormulaNext, p)),
		"12 nodes, many !":     formulaOf(impl.FormulaAnd, formulaOf(impl.FormulaOr, notP, notP), formulaOf(impl.FormulaOr, notP, formulaOf(impl.FormulaNext, notP))),
		"12 nodes that hold":   formulaOf(impl.FormulaOr, fullFormula(3, impl.FormulaOr, truth()), prefixed(3, impl.FormulaNext, p)),
		"depth 6":              rightChain(6, impl.FormulaAnd, p),
		"depth 6 that holds":   rightChain(6, impl.FormulaOr, truth()),
		"depth 6 in one place": prefixed(5, impl.FormulaNext, p),
		"depth 6 and true":     prefixed(5, impl.FormulaNext, truth()),
	}
	for _, text := range []string{
		// The negation has no normal form.
		"!GGGGp", "FFFFp", "(p&(q&(r&(p&q))))", "!(Xp&GGGp)",
		// The normal form of the negation has six or more basic formulas.
		"((Xp&Xq)&Xr)", "!((Xp&Xq)&Xr)", "((pUq)&((qUr)&(rUp)))", "!((pUq)|((qUr)|(rUp)))", "((Fp&Fq)&Fr)",
		// Its automaton has more than MaxAutomaton states.
		"!FFFFp", "!(FFpUG!p)", "!FFFGp", "!FGFFp", "!FFFXp", "!FXFFq", "GGGFp",
	} {
		list[text] = mustParseFormula(t, text)
	}
	return list
}

func TestCheckFormulaOfLargeFormulas(t *testing.T) {
	for name, f := range largeFormulas(t) {
		if !impl.FormulaValid(f) {
			t.Fatalf("%s is not valid", name)
		}
		for _, g := range []impl.Graph{ring(1), exampleGraph(), complete(60)} {
			if verdict, trace := impl.CheckFormula(g, plainLabels(), f); verdict != impl.VerdictLarge || !isZeroTrace(trace) {
				t.Errorf("%s: CheckFormula = %d, %s", name, verdict, traceText(trace))
			}
		}
		if verdict, stem, loop := impl.CheckSystem(exampleSystem(), plainLabels(), f); verdict != impl.VerdictLarge || len(stem) != 0 || len(loop) != 0 {
			t.Errorf("%s: CheckSystem = %d, %v, %v", name, verdict, stem, loop)
		}
		if _, ok := violations(f); ok {
			t.Errorf("%s: the tests' own construction does not find it too large", name)
		}
	}
}

// The largest formulas whose negation and its automaton are within the limits.
func TestCheckFormulaAtTheLimits(t *testing.T) {
	p, notP := atom(0), formulaOf(impl.FormulaNot, atom(0))
	eleven := formulaOf(impl.FormulaAnd, formulaOf(impl.FormulaOr, notP, notP), formulaOf(impl.FormulaOr, notP, notP))
	for name, f := range map[string]impl.Formula{
		"11 nodes":                        eleven,
		"12 nodes, a negation":            formulaOf(impl.FormulaNot, eleven),
		"depth 5":                         rightChain(4, impl.FormulaOr, notP),
		"depth 6, a negation":             formulaOf(impl.FormulaNot, rightChain(5, impl.FormulaAnd, p)),
		"five basic formulas":             mustParseFormula(t, "((Xp&Xq)&r)"),
		"five basic formulas, a negation": mustParseFormula(t, "!((Xp&Xq)&r)"),
		"XXXXp":                           mustParseFormula(t, "XXXXp"),
		"64 states":                       mustParseFormula(t, "!XXFFp"),
		"64 states, true":                 mustParseFormula(t, "!((XpUq)UT)"),
	} {
		if _, ok := violations(f); !ok {
			t.Errorf("%s: the tests' own construction finds it too large", name)
		}
		for _, text := range []string{"0 0", "1 0", "1 1|0 0", "7 0 1|0 1", "7 1|7 1"} {
			g := graphFrom(text)
			if verdict := checkPromise(t, g, plainLabels(), f, wordsOf(g, plainLabels())); verdict == impl.VerdictLarge {
				t.Errorf("%s: CheckFormula = VerdictLarge", name)
			}
		}
	}
}

// An argument that is not valid counts before a formula that is too large.
func TestCheckFormulaOfInvalidArguments(t *testing.T) {
	formulas := []impl.Formula{truth(), formulaOf(impl.FormulaNot, truth()), prefixed(5, impl.FormulaNext, atom(0)), mustParseFormula(t, "!FFFFp"), mustParseFormula(t, "((Xp&Xq)&Xr)")}
	forInvalidChecks(formulas, func(what string, g impl.Graph, labels []impl.Expr, f impl.Formula) {
		if verdict, trace := impl.CheckFormula(g, labels, f); verdict != impl.VerdictInvalid || !isZeroTrace(trace) {
			t.Errorf("%s: CheckFormula = %d, %s", what, verdict, traceText(trace))
		}
	})
}

// forInvalidChecks goes through arguments of which some are not valid. The
// formulas are used where it is another argument that is not.
func forInvalidChecks(valid []impl.Formula, check func(string, impl.Graph, []impl.Expr, impl.Formula)) {
	for name, g := range invalidGraphs() {
		for _, f := range valid {
			check("g: "+name, g, plainLabels(), f)
		}
	}
	for name, labels := range invalidLabels() {
		for _, f := range valid {
			check("labels: "+name, ring(1), labels, f)
			check("g and labels: "+name, impl.Graph{}, labels, f)
		}
	}
	for name, f := range invalidFormulas() {
		check("f: "+name, ring(1), plainLabels(), f)
		check("f: "+name, exampleGraph(), plainLabels(), f)
		check("labels and f: "+name, ring(1), nil, f)
		check("g and f: "+name, impl.Graph{}, plainLabels(), f)
	}
}
