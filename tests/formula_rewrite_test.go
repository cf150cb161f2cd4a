package tests

import (
	"strings"
	"testing"

	"loop.example/ltlcheck/impl"
)

// word is an infinite sequence of letters: the stem and then the loop again and
// again. A letter is the sum of 1 for atom 0, 2 for atom 1 and 4 for atom 2.
type word struct{ stem, loop []int }

// place is the position of stem and loop at which the rest of the sequence is
// the same as at position i.
func (w word) place(i int) int {
	if i < len(w.stem) {
		return i
	}
	return len(w.stem) + (i-len(w.stem))%len(w.loop)
}

func (w word) letter(i int) int {
	return append(append([]int(nil), w.stem...), w.loop...)[i]
}

// meaning returns for each position of stem and loop whether f holds from there
// on, by the table of the document. What is true of some position after k is
// true of one before k + size, since the positions repeat.
func meaning(f impl.Formula, w word) []bool {
	size := len(w.stem) + len(w.loop)
	var kids [][]bool
	for _, kid := range f.Kids {
		kids = append(kids, meaning(kid, w))
	}
	holds := func(kid, i int) bool { return kids[kid][w.place(i)] }
	somewhere := func(from, to, kid int, want bool) bool {
		for i := from; i < to; i++ {
			if holds(kid, i) == want {
				return true
			}
		}
		return false
	}
	list := make([]bool, size)
	for k := range list {
		switch f.Kind {
		case impl.FormulaTrue:
			list[k] = true
		case impl.FormulaAtom:
			list[k] = w.letter(k)>>f.Atom&1 == 1
		case impl.FormulaNot:
			list[k] = !holds(0, k)
		case impl.FormulaAnd:
			list[k] = holds(0, k) && holds(1, k)
		case impl.FormulaOr:
			list[k] = holds(0, k) || holds(1, k)
		case impl.FormulaNext:
			list[k] = holds(0, k+1)
		case impl.FormulaUntil:
			for i := k; i < k+size; i++ {
				list[k] = list[k] || holds(1, i) && !somewhere(k, i, 0, false)
			}
		case impl.FormulaRelease:
			list[k] = true
			for i := k; i < k+size; i++ {
				list[k] = list[k] && (holds(1, i) || somewhere(k, i, 0, true))
			}
		case impl.FormulaEventually:
			list[k] = somewhere(k, k+size, 0, true)
		case impl.FormulaAlways:
			list[k] = !somewhere(k, k+size, 0, false)
		}
	}
	return list
}

// shortWords returns the words of a stem of at most one letter and a loop of at
// most two, with p and q.
func shortWords() []word {
	var list []word
	for stem := -1; stem < 4; stem++ {
		for a := range 4 {
			for b := -1; b < 4; b++ {
				w := word{loop: []int{a}}
				if stem >= 0 {
					w.stem = []int{stem}
				}
				if b >= 0 {
					w.loop = append(w.loop, b)
				}
				list = append(list, w)
			}
		}
	}
	return list
}

func mixedWords(count int) []word {
	n := &numbers{last: 6}
	var list []word
	for range count {
		var w word
		for range n.below(5) {
			w.stem = append(w.stem, n.below(8))
		}
		for range 1 + n.below(4) {
			w.loop = append(w.loop, n.below(8))
		}
		list = append(list, w)
	}
	return list
}

// moved applies a rule of the document at one place, if there is such a place.
func moved(f impl.Formula) (impl.Formula, bool) {
	opposite := func(a impl.Formula) impl.Formula { return formulaOf(impl.FormulaNot, a) }
	if f.Kind == impl.FormulaEventually {
		return formulaOf(impl.FormulaUntil, truth(), f.Kids[0]), true
	}
	if f.Kind == impl.FormulaAlways {
		return formulaOf(impl.FormulaRelease, opposite(truth()), f.Kids[0]), true
	}
	if f.Kind == impl.FormulaNot {
		kids := f.Kids[0].Kids
		switch f.Kids[0].Kind {
		case impl.FormulaNot:
			return kids[0], true
		case impl.FormulaAnd:
			return formulaOf(impl.FormulaOr, opposite(kids[0]), opposite(kids[1])), true
		case impl.FormulaOr:
			return formulaOf(impl.FormulaAnd, opposite(kids[0]), opposite(kids[1])), true
		case impl.FormulaNext:
			return formulaOf(impl.FormulaNext, opposite(kids[0])), true
		case impl.FormulaUntil:
			return formulaOf(impl.FormulaRelease, opposite(kids[0]), opposite(kids[1])), true
		case impl.FormulaRelease:
			return formulaOf(impl.FormulaUntil, opposite(kids[0]), opposite(kids[1])), true
		case impl.FormulaEventually:
			return formulaOf(impl.FormulaRelease, opposite(truth()), opposite(kids[0])), true
		case impl.FormulaAlways:
			return formulaOf(impl.FormulaUntil, truth(), opposite(kids[0])), true
		}
	}
	for i, kid := range f.Kids {
		if next, ok := moved(kid); ok {
			r := formulaOf(f.Kind, f.Kids...)
			r.Kids[i] = next
			return r, true
		}
	}
	return f, false
}

// normalOf applies the rules of the document until none of them applies.
func normalOf(f impl.Formula) impl.Formula {
	for {
		next, ok := moved(f)
		if !ok {
			return f
		}
		f = next
	}
}

// hasNormalShape reports whether negations stand only in front of T and of
// atoms, and F and G do not occur.
func hasNormalShape(f impl.Formula) bool {
	if f.Kind == impl.FormulaEventually || f.Kind == impl.FormulaAlways {
		return false
	}
	if f.Kind == impl.FormulaNot && f.Kids[0].Kind != impl.FormulaTrue && f.Kids[0].Kind != impl.FormulaAtom {
		return false
	}
	for _, kid := range f.Kids {
		if !hasNormalShape(kid) {
			return false
		}
	}
	return true
}

// checkNormalForm checks everything that the document says about NormalForm.
func checkNormalForm(t *testing.T, f impl.Formula, words []word) {
	t.Helper()
	r, ok := impl.NormalForm(f)
	want := normalOf(f)
	if !withinLimits(want) {
		if ok || !isZeroFormula(r) {
			t.Fatalf("NormalForm(%s) = %s, %v, although it is too large", formulaText(f), formulaText(r), ok)
		}
		return
	}
	if !ok || !equalFormulas(r, want) {
		t.Fatalf("NormalForm(%s) = %s, %v, want %s", formulaText(f), formulaText(r), ok, formulaText(want))
	}
	if !impl.FormulaValid(r) || !hasNormalShape(r) {
		t.Fatalf("NormalForm(%s) = %s is not in normal form", formulaText(f), formulaText(r))
	}
	for _, w := range words {
		before, after := meaning(f, w), meaning(r, w)
		for i := range before {
			if before[i] != after[i] {
				t.Fatalf("%s and its normal form %s differ on %v from position %d on", formulaText(f), formulaText(r), w, i)
			}
		}
	}
}

// Promise 5: the negation normal form has the same meaning, with negations only
// in front of atoms and of true.
func TestNormalFormOfSmallFormulas(t *testing.T) {
	// A sample of the words that changes from case to case keeps this short.
	var samples [4][]word
	for i, w := range shortWords() {
		samples[i%4] = append(samples[i%4], w)
	}
	for i, f := range smallFormulas() {
		checkNormalForm(t, f, samples[i%4])
	}
}

func TestNormalFormOfLargerFormulas(t *testing.T) {
	words := mixedWords(30)
	accepted := 0
	for _, f := range append(sampleFormulas(), mixedFormulas(3000)...) {
		checkNormalForm(t, f, words)
		if _, ok := impl.NormalForm(f); ok {
			accepted++
		}
	}
	if accepted < 1000 {
		t.Errorf("only %d of the formulas have a normal form", accepted)
	}
}

// The tests' own meaning of a formula has to be right, too.
func TestMeaning(t *testing.T) {
	for _, c := range []struct {
		text string
		w    word
		want bool
	}{
		{"T", word{nil, []int{0}}, true},
		{"p", word{[]int{1}, []int{0}}, true}, {"p", word{[]int{6}, []int{1}}, false},
		{"r", word{nil, []int{4}}, true}, {"q", word{nil, []int{5}}, false},
		{"Xp", word{[]int{0}, []int{1}}, true}, {"Xp", word{nil, []int{1, 0}}, false},
		{"XXp", word{nil, []int{1, 0}}, true},
		{"(pUq)", word{[]int{1, 1, 2}, []int{0}}, true}, {"(pUq)", word{[]int{1, 0, 2}, []int{0}}, false},
		{"(pUq)", word{nil, []int{1}}, false}, {"(pUq)", word{[]int{2}, []int{0}}, true},
		{"(pRq)", word{nil, []int{2}}, true}, {"(pRq)", word{[]int{2, 3}, []int{0}}, true},
		{"(pRq)", word{[]int{2, 1}, []int{0}}, false}, {"(pRq)", word{[]int{2, 2}, []int{0}}, false},
		{"FGp", word{[]int{0, 2}, []int{1, 3}}, true}, {"GFq", word{[]int{0, 2}, []int{1, 3}}, true},
		{"Gp", word{[]int{0, 2}, []int{1, 3}}, false}, {"Fp", word{[]int{0, 2}, []int{0, 0, 1}}, true},
		{"Fr", word{[]int{0, 2}, []int{1, 3}}, false}, {"Gp", word{[]int{1}, []int{1, 1}}, true},
	} {
		if got := meaning(mustParseFormula(t, c.text), c.w)[0]; got != c.want {
			t.Errorf("%s on %v: %v", c.text, c.w, got)
		}
	}
}

func TestNormalForm(t *testing.T) {
	for _, c := range []struct{ text, want string }{
		{"!(pUXq)", "(!pRX!q)"},
		// Each kind and its negation.
		{"T", "T"}, {"!T", "!T"}, {"p", "p"}, {"!p", "!p"}, {"r", "r"}, {"!r", "!r"},
		{"!!p", "p"}, {"!!!p", "!p"}, {"!!!!p", "p"}, {"!!!!!p", "!p"}, {"!!T", "T"}, {"!!!T", "!T"},
		{"(p&q)", "(p&q)"}, {"!(p&q)", "(!p|!q)"}, {"(p|q)", "(p|q)"}, {"!(p|q)", "(!p&!q)"},
		{"Xp", "Xp"}, {"!Xp", "X!p"}, {"(pUq)", "(pUq)"}, {"!(pUq)", "(!pR!q)"},
		{"(pRq)", "(pRq)"}, {"!(pRq)", "(!pU!q)"},
		{"Fp", "(TUp)"}, {"!Fp", "(!TR!p)"}, {"Gp", "(!TRp)"}, {"!Gp", "(TU!p)"},
		// Double negations below other operators and above them.
		{"X!!p", "Xp"}, {"!X!p", "Xp"}, {"!!Xp", "Xp"}, {"(!!p&!!!q)", "(p&!q)"}, {"!(!p&q)", "(p|!q)"},
		{"!(!p|!q)", "(p&q)"}, {"(!!pU!!q)", "(pUq)"}, {"!(!pU!q)", "(pRq)"}, {"!(!pR!q)", "(pUq)"},
		{"!F!p", "(!TRp)"}, {"!G!p", "(TUp)"}, {"F!!p", "(TUp)"}, {"G!!p", "(!TRp)"}, {"!!Fp", "(TUp)"}, {"!!Gp", "(!TRp)"},
		{"!X!X!p", "XX!p"}, {"!F!F!p", "(!TR(TU!p))"},
		// Several operators.
		{"!FGp", "(!TR(TU!p))"}, {"!GFp", "(TU(!TR!p))"}, {"GFp", "(!TR(TUp))"}, {"FGp", "(TU(!TRp))"},
		{"!(p&!q)", "(!p|q)"}, {"G(p|Fq)", "(!TR(p|(TUq)))"}, {"!G(p|Fq)", "(TU(!p&(!TR!q)))"},
		{"!((p&q)|r)", "((!p|!q)&!r)"}, {"!(pU(qRr))", "(!pR(!qU!r))"}, {"!(TUp)", "(!TR!p)"}, {"!(!TRp)", "(TU!p)"},
		{"FT", "(TUT)"}, {"GT", "(!TRT)"}, {"!FT", "(!TR!T)"}, {"!GT", "(TU!T)"},
		// What is in normal form stays, even if a shorter formula means the same.
		{"(T&!T)", "(T&!T)"}, {"(p&p)", "(p&p)"}, {"(TU(TUp))", "(TU(TUp))"}, {"XT", "XT"},
	} {
		r, ok := impl.NormalForm(mustParseFormula(t, c.text))
		if !ok || formulaText(r) != c.want {
			t.Errorf("NormalForm(%s) = %s, %v, want %s", c.text, formulaText(r), ok, c.want)
		}
	}
}

// Formulas that are valid, with normal forms of 12 or 13 nodes and of a depth of
// 6 or 7.
func TestNormalFormThatBecomesTooLarge(t *testing.T) {
	for _, c := range []struct {
		text         string
		nodes, depth int
		want         string
	}{
		{"((p&q)&((p&q)&Gp))", 12, 5, "((p&q)&((p&q)&(!TRp)))"},
		{"((p&q)&((p&q)&GXp))", 13, 5, ""},
		{"((p&q)&((p&q)&FXp))", 12, 5, "((p&q)&((p&q)&(TUXp)))"},
		{"((p&q)&((p&q)&FXXp))", 13, 6, ""},
		{"((p&q)&((p&q)&(p|!q)))", 12, 5, "((p&q)&((p&q)&(p|!q)))"},
		{"!((p&q)&(p|Xq))", 12, 5, "((!p|!q)|(!p&X!q))"},
		{"!((p&q)&(Xp|Xq))", 13, 5, ""},
		{"!((pUq)R(pUXq))", 12, 5, "((!pR!q)U(!pRX!q))"},
		{"!((pUq)R(pUXXq))", 13, 6, ""},
		{"!!((p&q)&((p&q)&Gp))", 12, 5, "((p&q)&((p&q)&(!TRp)))"},
		{"!!((p&q)&((p&q)&Fp))", 11, 4, "((p&q)&((p&q)&(TUp)))"},
		{"!(p&(q&(r&(p&q))))", 14, 6, ""},
		{"GGGGp", 13, 6, ""},
		{"(p&GGGp)", 12, 6, "(p&(!TR(!TR(!TRp))))"},
		{"(Xp&GGGp)", 13, 6, ""},
		{"GGGp", 10, 5, "(!TR(!TR(!TRp)))"},
		{"FFFFFp", 11, 6, "(TU(TU(TU(TU(TUp)))))"},
		{"XXXGp", 7, 6, "XXX(!TRp)"},
		{"XXXXGp", 8, 7, ""},
		{"XXXXFp", 7, 6, "XXXX(TUp)"},
		{"XXXGXp", 8, 6, "XXX(!TRXp)"},
		{"XXXXXp", 6, 6, "XXXXXp"},
		{"!XXXXp", 6, 6, "XXXX!p"},
		{"(p&(p&(p&(p&Gp))))", 12, 7, ""},
		{"(p&(p&(p&Gp)))", 10, 6, "(p&(p&(p&(!TRp))))"},
		{"(p&(p&(p&(p&!p))))", 10, 6, "(p&(p&(p&(p&!p))))"},
		{"!(p&(p|G!p))", 9, 4, "(!p|(!p&(TUp)))"},
	} {
		f := mustParseFormula(t, c.text)
		nodes, depth := formulaSize(normalOf(f))
		if nodes != c.nodes || depth != c.depth {
			t.Errorf("the normal form of %s has %d nodes and the depth %d", c.text, nodes, depth)
		}
		r, ok := impl.NormalForm(f)
		if ok != (c.want != "") || ok && formulaText(r) != c.want || !ok && !isZeroFormula(r) {
			t.Errorf("NormalForm(%s) = %v, %v, want %q", c.text, r, ok, c.want)
		}
	}
}

// The normal forms of these formulas would be valid, but they are not.
func TestNormalFormOfTooLargeFormulas(t *testing.T) {
	for _, f := range []impl.Formula{
		prefixed(6, impl.FormulaNot, atom(0)),
		prefixed(2, impl.FormulaNot, rightChain(6, impl.FormulaAnd, truth())),
		prefixed(2, impl.FormulaNot, prefixed(4, impl.FormulaNext, atom(0))),
	} {
		if !withinLimits(normalOf(f)) || withinLimits(f) {
			t.Errorf("%s is not such a formula", formulaText(f))
		}
		if r, ok := impl.NormalForm(f); ok || !isZeroFormula(r) {
			t.Errorf("NormalForm(%s) = %v, %v", formulaText(f), r, ok)
		}
	}
}

// subformulaTexts returns the texts of the subformulas at their first places in
// postorder.
func subformulaTexts(f impl.Formula, list []string) []string {
	for _, kid := range f.Kids {
		list = subformulaTexts(kid, list)
	}
	for _, text := range list {
		if text == formulaText(f) {
			return list
		}
	}
	return append(list, formulaText(f))
}

func textsOf(list []impl.Formula) string {
	var texts []string
	for _, f := range list {
		texts = append(texts, formulaText(f))
	}
	return strings.Join(texts, " ")
}

func TestSubformulas(t *testing.T) {
	for _, c := range []struct{ text, want string }{
		{"T", "T"}, {"p", "p"}, {"!p", "p !p"}, {"Xq", "q Xq"}, {"Fr", "r Fr"}, {"Gr", "r Gr"},
		{"(p&q)", "p q (p&q)"}, {"(q|p)", "q p (q|p)"}, {"(pUq)", "p q (pUq)"}, {"(pRT)", "p T (pRT)"},
		{"(p&p)", "p (p&p)"}, {"!!!T", "T !T !!T !!!T"},
		{"(pU(p&q))", "p q (p&q) (pU(p&q))"},
		{"((p&q)Up)", "p q (p&q) ((p&q)Up)"},
		{"((p&q)|(q&p))", "p q (p&q) (q&p) ((p&q)|(q&p))"},
		{"((Xp&Xp)U(Xp&Xp))", "p Xp (Xp&Xp) ((Xp&Xp)U(Xp&Xp))"},
		{"((p&q)|(p|q))", "p q (p&q) (p|q) ((p&q)|(p|q))"},
		{"(Fp&(Gp|Xp))", "p Fp Gp Xp (Gp|Xp) (Fp&(Gp|Xp))"},
		{"(XpU(pUX!p))", "p Xp !p X!p (pUX!p) (XpU(pUX!p))"},
		{"((pUq)R(pRq))", "p q (pUq) (pRq) ((pUq)R(pRq))"},
		{"(FGp&GFp)", "p Gp FGp Fp GFp (FGp&GFp)"},
		{"((T&p)&(p&T))", "T p (T&p) (p&T) ((T&p)&(p&T))"},
		{"(!p&!!p)", "p !p !!p (!p&!!p)"},
	} {
		if got := textsOf(impl.Subformulas(mustParseFormula(t, c.text))); got != c.want {
			t.Errorf("Subformulas(%s) = %s, want %s", c.text, got, c.want)
		}
	}
	list := append(sampleFormulas(), mixedFormulas(2000)...)
	for _, f := range append(list, smallFormulas()...) {
		got, want := textsOf(impl.Subformulas(f)), strings.Join(subformulaTexts(f, nil), " ")
		if got != want {
			t.Fatalf("Subformulas(%s) = %s, want %s", formulaText(f), got, want)
		}
	}
}

func TestNegateFormula(t *testing.T) {
	for _, c := range []struct{ text, want string }{
		{"T", "!T"}, {"p", "!p"}, {"(p&q)", "!(p&q)"}, {"(p|q)", "!(p|q)"}, {"Xp", "!Xp"}, {"(pUq)", "!(pUq)"},
		{"(pRq)", "!(pRq)"}, {"Fp", "!Fp"}, {"Gp", "!Gp"}, {"X!p", "!X!p"}, {"(!p&!q)", "!(!p&!q)"},
		{"!p", "p"}, {"!T", "T"}, {"!!p", "!p"}, {"!!!p", "!!p"}, {"!(p&q)", "(p&q)"}, {"!X!p", "X!p"}, {"!!!!!p", "!!!!p"},
		// Sizes at the limits.
		{"((p&q)&((p&q)&FXp))", "!((p&q)&((p&q)&FXp))"},
		{"((p&q)&((p&q)&FXXp))", ""},
		{"((p&q)&((p&q)&(p|!q)))", ""},
		{"!((p&q)&((p&q)&FXp))", "((p&q)&((p&q)&FXp))"},
		{"XXXXp", "!XXXXp"}, {"XXXXXp", ""}, {"!XXXXp", "XXXXp"},
		{"(p&(p&(p&(p&p))))", "!(p&(p&(p&(p&p))))"}, {"(p&(p&(p&(p&!p))))", ""}, {"(p&(p&(p&(p&(p&p)))))", ""},
	} {
		r, ok := impl.NegateFormula(mustParseFormula(t, c.text))
		if ok != (c.want != "") || ok && formulaText(r) != c.want || !ok && !isZeroFormula(r) {
			t.Errorf("NegateFormula(%s) = %v, %v, want %q", c.text, r, ok, c.want)
		}
	}
	for _, f := range append(sampleFormulas(), mixedFormulas(2000)...) {
		want := formulaOf(impl.FormulaNot, f)
		if f.Kind == impl.FormulaNot {
			want = f.Kids[0]
		}
		r, ok := impl.NegateFormula(f)
		if ok != withinLimits(want) || ok && !equalFormulas(r, want) || !ok && !isZeroFormula(r) {
			t.Errorf("NegateFormula(%s) = %v, %v", formulaText(f), r, ok)
		}
	}
}
