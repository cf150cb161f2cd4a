package tests

import (
	"strings"
	"testing"

	"loop.example/ltlcheck/impl"
)

// mustSatisfy returns the answer of Satisfies for a valid lasso and formula.
func mustSatisfy(t *testing.T, l impl.Lasso, f impl.Formula) bool {
	t.Helper()
	holds, ok := impl.Satisfies(l, f)
	if !ok {
		t.Fatalf("Satisfies(%s, %s) = %v, %v", lassoText(l), formulaText(f), holds, ok)
	}
	return holds
}

func lassosOf(words []word) []impl.Lasso {
	var list []impl.Lasso
	for _, w := range words {
		list = append(list, impl.Lasso{Stem: w.stem, Loop: w.loop})
	}
	return list
}

// checkMeaning compares Satisfies with the tests' own meaning of the formula, at
// each position of the lasso.
func checkMeaning(t *testing.T, l impl.Lasso, f impl.Formula) {
	t.Helper()
	for i, want := range meaning(f, word{l.Stem, l.Loop}) {
		suffix, ok := impl.SuffixAt(l, i)
		if got := mustSatisfy(t, suffix, f); !ok || got != want {
			t.Fatalf("Satisfies(%s, %s) = %v at position %d", lassoText(l), formulaText(f), got, i)
		}
	}
}

func TestSatisfies(t *testing.T) {
	for _, c := range []struct {
		word, formula string
		want          bool
	}{
		{"02(13)", "FGp", true}, {"02(13)", "GFq", true}, {"02(13)", "Gp", false},
		// True and the atoms of the first letter, in the stem or in the loop.
		{"(0)", "T", true}, {"7(7)", "T", true}, {"1(0)", "p", true}, {"0(7)", "p", false}, {"(1)", "p", true}, {"(6)", "p", false},
		{"2(0)", "q", true}, {"5(7)", "q", false}, {"(2)", "q", true}, {"(5)", "q", false}, {"4(0)", "r", true}, {"3(7)", "r", false}, {"(4)", "r", true},
		{"(3)", "r", false}, {"(7)", "((p&q)&r)", true}, {"(0)", "((p|q)|r)", false}, {"(01)", "p", false}, {"(10)", "p", true},
		// The logical operators.
		{"(0)", "!T", false}, {"(0)", "!p", true}, {"(1)", "!p", false}, {"(1)", "!!p", true}, {"(0)", "!!!p", true}, {"(3)", "(p&q)", true}, {"(1)", "(p&q)", false},
		{"(2)", "(p&q)", false}, {"(0)", "(p&q)", false}, {"(3)", "(p|q)", true}, {"(1)", "(p|q)", true}, {"(2)", "(p|q)", true}, {"(4)", "(p|q)", false},
		// Next, within the stem, into the loop, and around the loop.
		{"01(0)", "Xp", true}, {"10(1)", "Xp", false}, {"0(1)", "Xp", true}, {"1(0)", "Xp", false}, {"(01)", "Xp", true}, {"(10)", "Xp", false}, {"(1)", "Xp", true},
		{"(0)", "Xp", false}, {"(10)", "XXp", true}, {"(100)", "XXXp", true}, {"(100)", "XXp", false}, {"0(12)", "XXXp", true}, {"0(12)", "XXXXq", true}, {"(4)", "XXXr", true},
		{"(01)", "GXXp", false}, {"1(0)", "XXXXXp", false}, {"0(1)", "XXXXXp", true}, {"(7)", "XT", true}, {"(7)", "X!T", false},
		// Until.
		{"2(0)", "(pUq)", true}, {"11(2)", "(pUq)", true}, {"110(2)", "(pUq)", false}, {"0(2)", "(pUq)", false}, {"111(12)", "(pUq)", true}, {"(1112)", "(pUq)", true},
		{"(1102)", "(pUq)", false}, {"(1)", "(pUq)", false}, {"(0)", "(pUq)", false}, {"(1)", "(pUT)", true}, {"(0)", "(!TUT)", true}, {"(1)", "(TU!T)", false},
		{"1(3)", "(pU(p&q))", true}, {"12(0)", "(pUq)", true}, {"10(2)", "(pUq)", false}, {"(2)", "(pUq)", true}, {"4(2)", "(rUq)", true},
		// Release.
		{"2(3)", "(pRq)", true}, {"(2)", "(pRq)", true}, {"(0)", "(qRp)", false}, {"23(0)", "(pRq)", true}, {"21(0)", "(pRq)", false}, {"22(20)", "(pRq)", false},
		{"3(0)", "(pRq)", true}, {"1(2)", "(pRq)", false}, {"(22223)", "(pRq)", true}, {"(22221)", "(pRq)", false}, {"22(22)", "(pRq)", true}, {"(3)", "(pR!T)", false},
		{"(0)", "(!TRT)", true}, {"(4)", "(!TRp)", false}, {"2(1)", "(pRq)", false}, {"(0)", "(TRT)", true}, {"3(0)", "(TRq)", true}, {"0(3)", "(TRq)", false},
		// Eventually and always.
		{"(01)", "Fp", true}, {"(0)", "Fp", false}, {"1(0)", "Fp", true}, {"0001(0)", "Fp", true}, {"000(0001)", "Fp", true}, {"222(4646)", "Fp", false},
		{"(1)", "Gp", true}, {"(11)", "Gp", true}, {"1(10)", "Gp", false}, {"10(1)", "Gp", false}, {"0(1)", "Gp", false}, {"111(1110)", "Gp", false}, {"1357(7531)", "Gp", true},
		{"(0)", "FT", true}, {"(0)", "GT", true}, {"(0)", "F!T", false}, {"(0)", "G!T", false},
		// Operators within each other.
		{"(01)", "GFp", true}, {"1(0)", "GFp", false}, {"(01)", "FGp", false}, {"0(1)", "FGp", true}, {"0(01)", "FGp", false}, {"0101(0)", "GFp", false},
		{"(12)", "G(p|Fq)", true}, {"12(1)", "G(p|Fq)", true}, {"12(0)", "G(p|Fq)", false}, {"(12)", "G(pUq)", true}, {"(112)", "G(pUq)", true}, {"(102)", "G(pUq)", false},
		{"(12)", "GXXX(pUq)", true}, {"1(2)", "F(q&Gq)", true}, {"(12)", "(FpUGq)", false}, {"(124)", "(pU(qUr))", true}, {"(124)", "((pUq)Ur)", true}, {"1(24)", "G(qUr)", false},
		{"(26)", "((pRq)Ur)", true}, {"(2)", "G(pRq)", true}, {"7(0)", "X!Fp", true}, {"(1)", "!Fq", true}, {"(1)", "!GFp", false}, {"2(6)", "FG(q&r)", true},
		{"1(01)", "G(p|Xp)", true}, {"1(001)", "G(p|Xp)", false}, {"(100)", "G(!p|XXXp)", true}, {"(100)", "GFXXp", true}, {"(100)", "(Xp|(p|XXp))", true},
	} {
		l, f := lassoFrom(c.word), mustParseFormula(t, c.formula)
		if got := mustSatisfy(t, l, f); got != c.want {
			t.Errorf("Satisfies(%s, %s) = %v", c.word, c.formula, got)
		}
		checkMeaning(t, l, f)
	}
}

// An until is not satisfied because the first operand always is: the second one
// must be satisfied at some time.
func TestUntilThatIsNeverFulfilled(t *testing.T) {
	long := strings.Repeat("1", 80)
	for _, c := range []struct {
		word, formula string
		want          bool
	}{
		{"(1)", "(pUq)", false}, {"1(1)", "(pUq)", false}, {"11(15)", "(pUq)", false}, {"(0)", "(TUq)", false}, {"(15)", "(pUq)", false}, {"151(155)", "(TUq)", false},
		{"(7)", "(TU!T)", false}, {"(1)", "(pU!p)", false}, {"(1)", "!(pUq)", true}, {"(1)", "X(pUq)", false}, {"(1)", "G(pUq)", false}, {"(1)", "F(pUq)", false}, {"(0)", "Fq", false},
		{"(1)", "(pU(pUq))", false}, {"(1)", "((pUq)Uq)", false}, {"(1)", "(TU(pU(qUr)))", false}, {"(3)", "(pU(qUr))", false}, {"(15)", "(GpUFq)", false}, {"(1)", "(FpU!Fp)", false},
		// It is fulfilled in the stem only.
		{"3(1)", "(pUq)", true}, {"3(1)", "X(pUq)", false}, {"13(1)", "(pUq)", true}, {"13(1)", "X(pUq)", true}, {"13(1)", "XX(pUq)", false}, {"2(1)", "(pUq)", true},
		{"2(1)", "G(pUq)", false}, {"2(1)", "F(pUq)", true}, {"12(1)", "XFq", true}, {"12(1)", "XXFq", false}, {"12(1)", "GFq", false}, {"113(1)", "XXX(pUq)", false},
		// All letters of the largest lasso.
		{long + "(" + long + ")", "(pUq)", false}, {long[1:] + "3(" + long + ")", "(pUq)", true}, {long + "(" + long[1:] + "3)", "(pUq)", true},
		{long + "(" + long[1:] + "2)", "G(pUq)", true}, {long[1:] + "0(" + long[1:] + "2)", "(pUq)", false}, {long + "(" + long[2:] + "02)", "(pUq)", false},
		// A release has no such duty.
		{"(2)", "(pRq)", true}, {"2(26)", "(pRq)", true}, {"(2)", "G(pRq)", true}, {"(1)", "(!TRp)", true}, {"(2)", "(qRq)", true}, {"(0)", "(pRq)", false}, {"(2)", "!(!pU!q)", true},
		{long + "(" + long + ")", "(qRp)", true}, {long + "(" + long[1:] + "0)", "(qRp)", false}, {long[1:] + "3(0)", "(qRp)", true}, {long[1:] + "2(0)", "(qRp)", false},
	} {
		if got := mustSatisfy(t, lassoFrom(c.word), mustParseFormula(t, c.formula)); got != c.want {
			t.Errorf("Satisfies(%s, %s) = %v", c.word, c.formula, got)
		}
	}
}

// Each kind of formula, on its own and within each other one.
func TestSatisfiesOfEachKindAtEachPosition(t *testing.T) {
	samples := lassosOf(append(shortWords(), mixedWords(60)...))
	seen := map[int]bool{}
	for _, f := range formulasUpTo(2, []impl.Formula{truth(), atom(0), atom(1), atom(2)}) {
		seen[f.Kind] = true
		for _, l := range samples {
			checkMeaning(t, l, f)
		}
	}
	if len(seen) != len(formulaKinds) {
		t.Errorf("only %d kinds are tested", len(seen))
	}
	for i, f := range smallFormulas() {
		for j := i % 40; j < len(samples); j += 40 {
			checkMeaning(t, samples[j], f)
		}
	}
}

func TestSatisfiesOfLargerFormulas(t *testing.T) {
	samples := lassosOf(mixedWords(200))
	emptyStems := 0
	for i, f := range append(sampleFormulas(), mixedFormulas(2000)...) {
		for j := i % 50; j < len(samples); j += 50 {
			emptyStems += bit(len(samples[j].Stem) == 0)
			checkMeaning(t, samples[j], f)
		}
	}
	if emptyStems < 500 {
		t.Errorf("only %d of the stems are empty", emptyStems)
	}
}

func TestSatisfiesOfLargeLassos(t *testing.T) {
	for _, text := range []string{"Xp", "Fp", "Gp", "GFq", "FGq", "(pUq)", "(!pU!q)", "(pRq)", "(!pR!q)", "G(pUXq)", "XX(pUX!p)", "(!p&X(!pUp))"} {
		f := mustParseFormula(t, text)
		for _, l := range largeLassos() {
			want := meaning(f, word{l.Stem, l.Loop})
			for _, i := range []int{0, 1, len(l.Stem) - 1, len(l.Stem), len(want) - 1} {
				suffix, ok := impl.SuffixAt(l, max(i, 0))
				if got := mustSatisfy(t, suffix, f); !ok || got != want[max(i, 0)] {
					t.Errorf("Satisfies(%s, %s) = %v at position %d", lassoText(l), text, got, i)
				}
			}
		}
	}
}

// The formulas are valid, although their negation normal forms or their
// negations are not.
func TestSatisfiesOfFormulasWithoutNormalForm(t *testing.T) {
	for _, text := range []string{"GGGGp", "GGGGGp", "!(p&(q&(r&(p&q))))", "XXXXGp", "(Xp&GGGp)", "((p&q)&((p&q)&FXXp))", "XXXXXp", "!((pUq)R(pUXXq))", "(p&(p&(p&(p&Gp))))"} {
		f := mustParseFormula(t, text)
		_, hasNormal := impl.NormalForm(f)
		_, hasNegation := impl.NegateFormula(f)
		if hasNormal && hasNegation {
			t.Errorf("%s is not such a formula", text)
		}
		for _, l := range lassosOf(mixedWords(40)) {
			checkMeaning(t, l, f)
		}
	}
}

func TestSatisfiesOfInvalidFormulas(t *testing.T) {
	for name, f := range invalidFormulas() {
		for _, text := range []string{"(0)", "02(13)", "7(7)", "(1111)"} {
			if holds, ok := impl.Satisfies(lassoFrom(text), f); ok || holds {
				t.Errorf("%s: Satisfies(%s) = %v, %v", name, text, holds, ok)
			}
		}
		if holds, ok := impl.Satisfies(impl.Lasso{}, f); ok || holds {
			t.Errorf("%s: Satisfies of an invalid lasso = %v, %v", name, holds, ok)
		}
	}
}

// lawFormulas has formulas whose truth changes along a word.
func lawFormulas(t *testing.T) []impl.Formula {
	list := append(sampleFormulas(), mixedFormulas(300)...)
	for _, text := range []string{"FGp", "GFq", "(pUq)", "(pRq)", "XXXp", "G(pUq)", "(pU(qUr))", "!(pU!XXq)", "F(p&XXq)", "(FpRGq)", "GGGGp"} {
		list = append(list, mustParseFormula(t, text))
	}
	return list
}

// Promise 6: the truth of a formula depends only on the word. The first of the
// other lassos is always the lasso itself, so the reduced one is among them.
func TestLassosOfOneWordSatisfyTheSame(t *testing.T) {
	formulas := lawFormulas(t)
	for i, l := range sampleLassos() {
		others := otherLassos(l, 5)
		reduced, ok := impl.ReduceLasso(l)
		if !ok {
			t.Fatalf("ReduceLasso(%s) = %v, %v", lassoText(l), reduced, ok)
		}
		others = append(others, otherLassos(reduced, 2)...)
		for j := i % 12; j < len(formulas); j += 12 {
			f := formulas[j]
			want := mustSatisfy(t, l, f)
			for _, other := range others {
				if mustSatisfy(t, other, f) != want {
					t.Fatalf("%s and %s are the same word, but only one satisfies %s", lassoText(l), lassoText(other), formulaText(f))
				}
			}
		}
	}
}

// Promise 6: a word has one truth for all lassos of it up to the limits.
func TestLassosOfOneWordUpToTheLimits(t *testing.T) {
	formulas := lawFormulas(t)
	for i, text := range []string{"(1)", "(12)", "2(1)", "0(12)", "31(102)", "7(0)", "1111(21)", "0(0001)", "(01234)", "6(1357)"} {
		l := lassoFrom(text)
		others := otherLassos(l, impl.MaxLoop)
		for j := i % 40; j < len(formulas); j += 40 {
			want := mustSatisfy(t, l, formulas[j])
			for k := j % 23; k < len(others); k += 23 {
				if mustSatisfy(t, others[k], formulas[j]) != want {
					t.Fatalf("%s and %s are the same word, but only one satisfies %s", text, lassoText(others[k]), formulaText(formulas[j]))
				}
			}
		}
	}
}

// checkLaws checks the expansion laws of the operators for a word and two
// formulas.
func checkLaws(t *testing.T, l impl.Lasso, a, b impl.Formula) {
	t.Helper()
	holds := func(f impl.Formula) bool { return mustSatisfy(t, l, f) }
	later := func(f impl.Formula) bool { return holds(formulaOf(impl.FormulaNext, f)) }
	until, release := formulaOf(impl.FormulaUntil, a, b), formulaOf(impl.FormulaRelease, a, b)
	eventually, always := formulaOf(impl.FormulaEventually, a), formulaOf(impl.FormulaAlways, a)
	for _, c := range []struct {
		f    impl.Formula
		want bool
	}{
		{until, holds(b) || holds(a) && later(until)},
		{release, holds(b) && (holds(a) || later(release))},
		{eventually, holds(a) || later(eventually)},
		{always, holds(a) && later(always)},
	} {
		if holds(c.f) != c.want {
			t.Fatalf("%s does not follow its expansion law on %s", formulaText(c.f), lassoText(l))
		}
	}
}

// Promise 6: the expansion laws of the temporal operators.
func TestExpansionLaws(t *testing.T) {
	operands := formulasUpTo(2, []impl.Formula{truth(), atom(0), atom(1)})
	samples := lassosOf(append(shortWords(), mixedWords(100)...))
	for i, a := range operands {
		for j, b := range operands {
			for k := (i + j) % 20; k < len(samples); k += 20 {
				checkLaws(t, samples[k], a, b)
			}
		}
	}
}

func TestExpansionLawsOfLargeLassos(t *testing.T) {
	operands := []impl.Formula{atom(0), atom(1), atom(2), formulaOf(impl.FormulaNot, atom(0))}
	for _, text := range []string{"Fp", "Gq", "(pUq)", "(qRr)", "XXp", "GFp", "(p|q)"} {
		operands = append(operands, mustParseFormula(t, text))
	}
	for i, l := range largeLassos() {
		for j := i % 4; j < len(operands); j += 4 {
			for k := range operands {
				checkLaws(t, l, operands[j], operands[k])
			}
		}
	}
}

// The next operator is what takes one step along the word, and negation is what
// turns each operator into its dual.
func TestLawsOfNextAndNegation(t *testing.T) {
	formulas := formulasUpTo(2, []impl.Formula{truth(), atom(0), atom(1), atom(2)})
	for _, l := range lassosOf(append(shortWords(), mixedWords(60)...)) {
		suffix, ok := impl.SuffixAt(l, 1)
		if !ok {
			t.Fatalf("SuffixAt(%s, 1) = %v, %v", lassoText(l), suffix, ok)
		}
		for _, f := range formulas {
			if mustSatisfy(t, l, formulaOf(impl.FormulaNext, f)) != mustSatisfy(t, suffix, f) {
				t.Fatalf("%s: X%s is not %s one step later", lassoText(l), formulaText(f), formulaText(f))
			}
			negation, _ := impl.NegateFormula(f)
			normal, _ := impl.NormalForm(negation)
			if holds := mustSatisfy(t, l, f); mustSatisfy(t, l, negation) == holds || mustSatisfy(t, l, normal) == holds {
				t.Fatalf("%s: %s is not the opposite of its negation", lassoText(l), formulaText(f))
			}
		}
	}
}
