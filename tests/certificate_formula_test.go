package tests

import (
	"slices"
	"testing"

	"loop.example/ltlcheck/impl"
)

// checkCertified checks that there is a certificate exactly if the formula holds,
// and that it is accepted.
func checkCertified(t *testing.T, g impl.Graph, labels []impl.Expr, f impl.Formula) (int, impl.Certificate) {
	t.Helper()
	verdict, _ := impl.CheckFormula(g, labels, f)
	c, ok := impl.CertifyFormula(g, labels, f)
	if ok != (verdict == impl.VerdictHolds) || !ok && !isZeroCertificate(c) {
		t.Fatalf("CertifyFormula of %v with%s and %s = %v, %v, but the verdict is %d", g, labelsText(labels), formulaText(f), c, ok, verdict)
	}
	if ok && !impl.VerifyFormula(g, labels, f, c) {
		t.Fatalf("VerifyFormula of %v with%s and %s does not accept %v", g, labelsText(labels), formulaText(f), c)
	}
	return verdict, c
}

// refuseAll checks that no list is accepted.
func refuseAll(t *testing.T, g impl.Graph, labels []impl.Expr, f impl.Formula, lists ...[]int) {
	t.Helper()
	for _, ranks := range lists {
		if impl.VerifyFormula(g, labels, f, impl.Certificate{Ranks: ranks}) {
			t.Fatalf("VerifyFormula of %v with%s and %s accepts %v", g, labelsText(labels), formulaText(f), ranks)
		}
	}
}

// The automata and their products with the graphs were derived by hand.
func TestCertifyFormula(t *testing.T) {
	for _, c := range []struct{ graph, formula, want string }{
		{"0 0", "T", "-"}, {"0 1|0 2|0 1", "T", "-|-|-"}, {"1 0", "p", "0 -"}, {"1 1|0 1", "p", "0 -|- -"}, {"0 1|1 1", "Xp", "1 0 - -|0 - 0 -"}, {"1 0", "Gp", "0 0 - -"}, {"0 1|1 1", "Fp", "1 0|0 0"}, {"1 1|0 1", "Fp", "0 0|- -"},
		{"0 0", "!T", ""}, {"0 0", "p", ""}, {"0 1|0 1", "Xp", ""}, {"1 1|0 1", "Gp", ""}, {"0 1|0 0", "Fp", ""}, {"1 1|0 0", "FGp", ""}, {"0 0 1|1 1", "Fp", ""},
	} {
		g, f := graphFrom(c.graph), mustParseFormula(t, c.formula)
		got, ok := impl.CertifyFormula(g, plainLabels(), f)
		if ok != (c.want != "") || !slices.Equal(got.Ranks, ranksFrom(c.want)) {
			t.Errorf("CertifyFormula of %s and %s = %v, %v, want %s", c.graph, c.formula, got, ok, c.want)
		}
		checkCertified(t, g, plainLabels(), f)
	}
}

func TestVerifyFormula(t *testing.T) {
	for _, c := range []struct {
		graph, formula    string
		accepted, refused []string
	}{
		{"0 1|1 1", "Xp", []string{"1 0 - -|0 - 0 -", "1 0 - 0|0 - 0 -", "9 4 - 4000|8 - 3 -", "2 4000 - -|1 - 1 -"}, []string{"", "1", "1 0 0 0|0 - 0 -", "1 0 4000 -|0 - 0 -", "0 0 - -|0 - 0 -", "1 0 - -|1 - 0 -", "1 0 - -|0 - 1 -", "1 - - -|0 - 0 -", "- 0 - -|0 - 0 -", "1 0 - -|- - 0 -", "1 0 - -|0 - - -", "1 0 - -|0 - 0", "1 0 - -|0 - 0 - -", "1 0 - -|0 - 0 -2", "1 0 - -|0 - 0 4001", "1 0 - -|0 0 0 -", "1 0 - -|0 - 0 0"}},
		{"1 0", "Gp", []string{"0 0 - -", "5 7 - -", "7 7 - -", "0 0 5 -", "0 0 4000 -"}, []string{"- - - -", "1 0 - -", "0 - - -", "- 0 - -", "0 0 - 0", "0 0 0 0", "0 0 - 1", "", "0 0"}},
		{"0 1|1 1", "Fp", []string{"1 0|0 0", "2 7|1 0", "4000 4000|3999 3999"}, []string{"0 0|0 0", "1 0|1 0", "1 0|0 1", "1 0|0 -", "1 0|- 0", "- 0|0 0", "1 -|0 0", "1 0", "0|0"}},
		{"0 0", "T", []string{"-", "0", "4000"}, []string{"", "-2", "4001", "- -"}}, {"0 0", "!T", nil, []string{"", "-", "0", "1", "4000"}}, {"1 0", "p", []string{"0 -", "4000 -"}, []string{"- -", "0 0", "0 1", "", "0", "0 - -"}}, {"0 0", "p", nil, []string{"0 0", "1 0", "0 -", "4000 3999", "- -", "-", ""}},
	} {
		g, f := graphFrom(c.graph), mustParseFormula(t, c.formula)
		for _, text := range c.accepted {
			if !impl.VerifyFormula(g, plainLabels(), f, certificateFrom(text)) {
				t.Errorf("VerifyFormula of %s, %s and %s = false", c.graph, c.formula, text)
			}
		}
		for _, text := range c.refused {
			if impl.VerifyFormula(g, plainLabels(), f, certificateFrom(text)) {
				t.Errorf("VerifyFormula of %s, %s and %s = true", c.graph, c.formula, text)
			}
		}
	}
}

func TestCertifyFormulaOfTheExample(t *testing.T) {
	labels := labelsOf(t, "(x<2)", "(x=1)", "(x=y)")
	for text, holds := range map[string]bool{"(pU!p)": true, "Gp": false, "F!p": true, "FG!q": true, "GFq": false, "T": true, "!T": false, "p": true, "!p": false, "Fq": true, "(!qUq)": true, "G(q|r)": true, "G(p|q)": false, "XXp": true, "XXXp": false, "FG(!p&r)": true, "G(!p|Fq)": true, "G(p|Fq)": false, "(Gp|Fq)": true} {
		f := mustParseFormula(t, text)
		verdict, c := checkCertified(t, exampleGraph(), labels, f)
		if holds != (verdict == impl.VerdictHolds) {
			t.Errorf("the verdict of %s is %d, and the certificate is %v", text, verdict, c)
		}
	}
}

// Promise 9: a certificate exists exactly if the formula holds, and one that is
// accepted shows that it holds.
func TestCertificatesExistExactlyIfTheFormulaHolds(t *testing.T) {
	n := &numbers{last: 37}
	labels, formulas := variedLabels(t), checkedFormulas(t)
	verdicts := map[int]int{}
	accepted := 0
	for i, g := range labelledGraphs(t) {
		l := labels[i%len(labels)]
		words := wordsOf(g, l)
		for j := i % 211; j < len(formulas); j += 211 {
			f := formulas[j]
			verdict, c := checkCertified(t, g, l, f)
			verdicts[verdict]++
			switch verdict {
			case impl.VerdictFails:
				refuseAll(t, g, l, f, nearlyCertificates(n, g, l, f)...)
			case impl.VerdictHolds:
				for _, word := range words {
					if !mustSatisfy(t, word, f) {
						t.Fatalf("CertifyFormula of %v with%s and %s = %v, but %s does not satisfy the formula", g, labelsText(l), formulaText(f), c, lassoText(word))
					}
				}
				for _, list := range nearbyLists(n, c.Ranks, 3) {
					accepted += bit(impl.VerifyFormula(g, l, f, impl.Certificate{Ranks: list}))
				}
			default:
				refuseAll(t, g, l, f, nil, make([]int, len(g.States)), slices.Repeat([]int{-1}, 64*len(g.States)))
			}
		}
	}
	if verdicts[impl.VerdictHolds] < 2000 || verdicts[impl.VerdictFails] < 1500 || verdicts[impl.VerdictLarge] < 500 || accepted < 5000 {
		t.Errorf("the verdicts are %v, and only %d lists near certificates are accepted", verdicts, accepted)
	}
}

// negated returns the automaton of the negation of a formula that is not too
// large.
func negated(f impl.Formula) impl.Automaton {
	negation, _ := impl.NegateFormula(f)
	a, _ := impl.TranslateFormula(negation)
	return a
}

// nearlyCertificates returns lists of ranks of the right length, most of which
// miss the conditions in few places.
func nearlyCertificates(n *numbers, g impl.Graph, labels []impl.Expr, f impl.Formula) [][]int {
	a := negated(f)
	nodes := len(g.States) * len(a.Accepting)
	lists := [][]int{nil, make([]int, nodes), slices.Repeat([]int{-1}, nodes), slices.Repeat([]int{4000}, nodes)}
	for _, passes := range []int{1, 3, 9} {
		ranks := ranksAfter(g, lettersOf(g, labels), a, passes)
		lists = append(lists, nearbyLists(n, ranks, 1)...)
		lists = append(lists, raised(ranks, 1, 4000-passes))
	}
	return lists
}

// All lists of ranks of a small range, for formulas that fail.
func TestNoShortListIsAcceptedForAFormulaThatFails(t *testing.T) {
	var formulas []impl.Formula
	for _, text := range []string{"p", "!p", "Xp", "Gp", "Fp", "!T", "(p&q)", "(p|q)", "GFp", "FGp", "(pUq)", "(pRq)"} {
		formulas = append(formulas, mustParseFormula(t, text))
	}
	for i, f := range smallFormulas() {
		if i%31 == 0 {
			formulas = append(formulas, f)
		}
	}
	failed, shown := 0, 0
	for i, text := range []string{"0 0", "1 0", "2 0", "3 0", "0 1|0 0", "1 1|0 1", "0 0 1|1 1", "1 0 1|2 1"} {
		g := graphFrom(text)
		for j, f := range formulas {
			verdict, trace := impl.CheckFormula(g, plainLabels(), f)
			if verdict != impl.VerdictFails {
				continue
			}
			size := len(g.States) * len(negated(f).Accepting)
			if size > 8 || size > 5 && (i+j)%47 > 0 {
				continue
			}
			most := 2 - bit(size > 5)
			for _, ranks := range rankLists(size, -1, most) {
				if impl.VerifyFormula(g, plainLabels(), f, impl.Certificate{Ranks: ranks}) {
					t.Fatalf("VerifyFormula of %s and %s accepts %v, though %s violates the formula", text, formulaText(f), ranks, traceText(trace))
				}
			}
			failed++
			shown += bit(size > 3)
		}
	}
	if failed < 100 || shown < 50 {
		t.Errorf("only %d formulas that fail, %d of them with more than 3 nodes", failed, shown)
	}
}

// The certificates are the least ones for the automaton that the tests' own
// construction yields.
func TestCertifyFormulaOfSampleGraphs(t *testing.T) {
	n := &numbers{last: 38}
	labels, formulas := variedLabels(t), checkedFormulas(t)
	made, none, accepted := 0, 0, 0
	for i, g := range labelledGraphs(t) {
		for j := i % 271; j < len(formulas); j += 271 {
			l, f := labels[(i+j)%len(labels)], formulas[j]
			letters := lettersOf(g, l)
			c, ok := impl.CertifyFormula(g, l, f)
			a, possible := violations(f)
			var want []int
			if possible {
				want, possible = leastRanks(g, letters, a)
			}
			if ok != possible || !slices.Equal(c.Ranks, want) {
				t.Fatalf("CertifyFormula of %v with%s and %s = %v, %v, want %v, %v", g, labelsText(l), formulaText(f), c, ok, want, possible)
			}
			made += bit(ok)
			none += bit(!ok)
			if !ok {
				continue
			}
			for _, list := range nearbyLists(n, raised(want, 1, n.below(3)), 4) {
				got := impl.VerifyFormula(g, l, f, impl.Certificate{Ranks: list})
				if got != isCertificate(g, letters, a, list) {
					t.Fatalf("VerifyFormula of %v with%s, %s and %v = %v", g, labelsText(l), formulaText(f), list, got)
				}
				accepted += bit(got)
			}
		}
	}
	if made < 1000 || none < 1000 || accepted < 3000 {
		t.Errorf("%d certificates, %d formulas without one, and %d lists are accepted", made, none, accepted)
	}
}

func TestCertifyFormulaOfLargeGraphs(t *testing.T) {
	n := &numbers{last: 39}
	graphs := []impl.Graph{withVals(n, ring(60)), withVals(n, complete(60)), graphOf(grid60(t)), graphOf(cycle60(t)), withVals(n, mixedGraph(n, 60, 3))}
	verdicts := map[int]int{}
	for i, g := range graphs {
		for j, text := range []string{"Gp", "GFp", "FGp", "(pUq)", "G(!p|Fq)", "XXXXp", "!XXFFp", "FX((pRq)|q)", "G(p|(q|r))", "FGr", "GGp", "F(p|!p)", "G(qRX(r&T))"} {
			f := mustParseFormula(t, text)
			for _, l := range [][]impl.Expr{variedLabels(t)[(i+j)%7], labelsOf(t, "1", "(x<3)", "!((x=3)&(y=3))")} {
				verdict, c := checkCertified(t, g, l, f)
				verdicts[verdict]++
				if verdict == impl.VerdictHolds && len(c.Ranks)%60 != 0 {
					t.Errorf("the certificate of %s has %d elements", text, len(c.Ranks))
				}
			}
		}
	}
	if verdicts[impl.VerdictHolds] < 40 || verdicts[impl.VerdictFails] < 40 {
		t.Errorf("the verdicts are %v", verdicts)
	}
}

// NegateFormula or TranslateFormula returns false.
func TestCertifyFormulaOfLargeFormulas(t *testing.T) {
	for name, f := range largeFormulas(t) {
		for _, g := range []impl.Graph{ring(1), exampleGraph(), complete(60)} {
			if c, ok := impl.CertifyFormula(g, plainLabels(), f); ok || !isZeroCertificate(c) {
				t.Errorf("%s: CertifyFormula = %v, %v", name, c, ok)
			}
			for _, size := range []int{0, 1, 2, 4, 63, 64, 65} {
				refuseAll(t, g, plainLabels(), f, make([]int, size*len(g.States)), slices.Repeat([]int{-1}, size*len(g.States)))
			}
		}
	}
}

// The formulas would hold, or be too large, if the other arguments were valid.
func TestCertifyFormulaOfInvalidArguments(t *testing.T) {
	formulas := []impl.Formula{truth(), mustParseFormula(t, "(p|!p)"), prefixed(5, impl.FormulaNext, atom(0)), mustParseFormula(t, "!FFFFp")}
	forInvalidChecks(formulas, func(what string, g impl.Graph, labels []impl.Expr, f impl.Formula) {
		if c, ok := impl.CertifyFormula(g, labels, f); ok || !isZeroCertificate(c) {
			t.Errorf("%s: CertifyFormula = %v, %v", what, c, ok)
		}
		for _, size := range []int{0, 1, 2, len(g.States) % 1000, 2 * len(g.States) % 1000} {
			refuseAll(t, g, labels, f, make([]int, size), slices.Repeat([]int{-1}, size))
		}
	})
}
