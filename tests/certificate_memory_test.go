package tests

import (
	"slices"
	"testing"

	"loop.example/ltlcheck/impl"
)

func roomyCertificate(c impl.Certificate) impl.Certificate {
	return impl.Certificate{Ranks: roomyInts(c.Ranks)}
}

func untouchedCertificate(c, before impl.Certificate) bool {
	return untouchedInts(c.Ranks, before.Ranks)
}

func TestCertificateArgumentsStay(t *testing.T) {
	n := &numbers{last: 41}
	labels := append(variedLabels(t), sampleLabels()[:40]...)
	automata, formulas := slices.Concat(memoryAutomata(), rareAutomata(30), descending(60)), checkedFormulas(t)
	made := 0
	for i, graphBefore := range memoryGraphs(t) {
		labelsBefore, automatonBefore, formulaBefore := labels[i%len(labels)], automata[i*7%len(automata)], formulas[i*5%len(formulas)]
		g, l, a, f := roomyGraph(graphBefore), roomyLabels(labelsBefore), roomyAutomaton(automatonBefore), roomyFormula(formulaBefore)
		untouchedAll := func() bool {
			return untouchedGraph(g, graphBefore) && untouchedLabels(l, labelsBefore) && untouchedAutomaton(a, automatonBefore) && untouchedFormula(f, formulaBefore)
		}
		reached, _ := impl.ProductReach(g, l, a)
		least, ok := impl.MakeCertificate(g, l, a)
		certified, okFormula := impl.CertifyFormula(g, l, f)
		made += bit(ok || okFormula)
		lists := [][]int{least.Ranks, certified.Ranks, nil, {-1, 0}, make([]int, len(reached))}
		if ok {
			lists = append(lists, nearbyLists(n, least.Ranks, 3)...)
		}
		for _, ranks := range lists {
			before := impl.Certificate{Ranks: slices.Clone(ranks)}
			c := roomyCertificate(before)
			impl.CheckCertificate(g, l, a, c)
			impl.VerifyFormula(g, l, f, c)
			impl.CertificateRank(c)
			impl.FormatCertificate(c)
			reduced, _ := impl.ReduceCertificate(g, l, a, c)
			overwriteInts(reduced.Ranks)
			if !untouchedCertificate(c, before) || !untouchedAll() {
				t.Fatalf("an argument is changed, or shares memory with a result: %v,%s, %q, %s or %v", graphBefore, labelsText(labelsBefore), automatonText(automatonBefore), formulaText(formulaBefore), before)
			}
		}
		overwriteBools(reached)
		overwriteInts(least.Ranks)
		overwriteInts(certified.Ranks)
		if !untouchedAll() {
			t.Fatalf("an argument is changed, or shares memory with a result: %v,%s, %q or %s", graphBefore, labelsText(labelsBefore), automatonText(automatonBefore), formulaText(formulaBefore))
		}
	}
	if made < 50 {
		t.Errorf("only %d graphs with a certificate", made)
	}
}

func TestInvalidCertificateArgumentsStay(t *testing.T) {
	nothing, p := automatonOf("1|0|"), atom(0)
	l, a, f := roomyLabels(plainLabels()), roomyAutomaton(nothing), roomyFormula(p)
	before := certificateFrom("0 - 4001 -2 7")
	c := roomyCertificate(before)
	call := func(g impl.Graph, labels []impl.Expr, a impl.Automaton) {
		impl.ProductReach(g, labels, a)
		impl.MakeCertificate(g, labels, a)
		impl.CheckCertificate(g, labels, a, c)
		impl.ReduceCertificate(g, labels, a, c)
		impl.CertifyFormula(g, labels, f)
		impl.VerifyFormula(g, labels, f, c)
	}
	for name, before := range invalidGraphs() {
		g := roomyGraph(before)
		call(g, l, a)
		if !untouchedGraph(g, before) {
			t.Errorf("%s: the graph is changed", name)
		}
	}
	for name, before := range map[string][]impl.Expr{"one": {variable(0)}, "four": {constant(1), constant(1), constant(1), constant(1)}, "zero values": make([]impl.Expr, 3), "a variable 3": {constant(0), not(variable(3)), constant(0)}} {
		labels := roomyLabels(before)
		call(ring(2), labels, a)
		if !untouchedLabels(labels, before) {
			t.Errorf("%s: the labels are changed", name)
		}
	}
	for name, before := range invalidAutomata() {
		other := roomyAutomaton(before)
		call(ring(2), l, other)
		if !untouchedAutomaton(other, before) {
			t.Errorf("%s: the automaton is changed", name)
		}
	}
	impl.CertificateRank(c)
	impl.FormatCertificate(c)
	if !untouchedLabels(l, plainLabels()) || !untouchedAutomaton(a, nothing) || !untouchedFormula(f, p) || !untouchedCertificate(c, before) {
		t.Error("an argument is changed")
	}
}

// Each call has its own results.
func TestCertificateResultsShareNoMemory(t *testing.T) {
	labels, automata, formulas := variedLabels(t), slices.Concat(mixedAutomata(60), rareAutomata(30), descending(60)), checkedFormulas(t)
	made := 0
	for i, g := range memoryGraphs(t) {
		l, a, f := labels[i%len(labels)], automata[i*7%len(automata)], formulas[i*5%len(formulas)]
		reached, _ := impl.ProductReach(g, l, a)
		again, _ := impl.ProductReach(g, l, a)
		want := slices.Clone(again)
		overwriteBools(reached)
		if !slices.Equal(again, want) {
			t.Fatalf("two results of ProductReach of %v share memory", g)
		}
		least, _ := impl.MakeCertificate(g, l, a)
		for _, call := range []func() impl.Certificate{
			func() impl.Certificate { c, _ := impl.MakeCertificate(g, l, a); return c },
			func() impl.Certificate { c, _ := impl.CertifyFormula(g, l, f); return c },
			func() impl.Certificate { c, _ := impl.ReduceCertificate(g, l, a, least); return c },
			func() impl.Certificate {
				c, _ := impl.ParseCertificate(impl.FormatCertificate(least))
				return c
			},
		} {
			first, second := call(), call()
			want := slices.Clone(second.Ranks)
			noIntTwice(t, certificateText(second), [][]int{first.Ranks, second.Ranks, least.Ranks})
			overwriteInts(first.Ranks)
			if third := call(); !slices.Equal(second.Ranks, want) || !slices.Equal(third.Ranks, want) {
				t.Fatalf("two results for %v share memory", g)
			}
			made += bit(len(want) > 1)
		}
	}
	if made < 200 {
		t.Errorf("only %d certificates of several nodes", made)
	}
}

// A caller may use one list for several purposes.
func TestCertificatesOfSharedLists(t *testing.T) {
	all := []int{0, 1, 2}
	st := impl.State{Locs: all, Vals: all}
	g := impl.Graph{States: []impl.State{st, st, st}, Next: [][]int{all, all, all}}
	a := impl.Automaton{Initial: all[:1], Accepting: []bool{true}}
	c := impl.Certificate{Ranks: all}
	reached, ok := impl.ProductReach(g, plainLabels(), a)
	if !ok || !slices.Equal(reached, []bool{true, false, false}) || !impl.CheckCertificate(g, plainLabels(), a, c) {
		t.Errorf("ProductReach = %v, %v", reached, ok)
	}
	reduced, ok := impl.ReduceCertificate(g, plainLabels(), a, c)
	if !ok || !slices.Equal(reduced.Ranks, ranksFrom("0 - -")) || impl.FormatCertificate(c) != "ranks 0 1 2" || impl.CertificateRank(c) != 2 {
		t.Errorf("ReduceCertificate = %v, %v", reduced, ok)
	}
	made, ok := impl.MakeCertificate(g, plainLabels(), a)
	if !ok || !slices.Equal(made.Ranks, ranksFrom("0 - -")) {
		t.Errorf("MakeCertificate = %v, %v", made, ok)
	}
	overwriteBools(reached)
	overwriteInts(reduced.Ranks)
	overwriteInts(made.Ranks)
	if !slices.Equal(all, []int{0, 1, 2}) {
		t.Errorf("the list is changed: %v", all)
	}
}
