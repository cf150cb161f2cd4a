package tests

import (
	"testing"

	"loop.example/ltlcheck/impl"
)

// roomyFormula returns a copy of f in which every list of operands is a part of
// a longer one, whose other elements have the kind 77.
func roomyFormula(f impl.Formula) impl.Formula {
	list := make([]impl.Formula, len(f.Kids)+3)
	for i := range list {
		list[i] = impl.Formula{Kind: 77}
	}
	for i, kid := range f.Kids {
		list[i] = roomyFormula(kid)
	}
	return impl.Formula{Kind: f.Kind, Atom: f.Atom, Kids: list[:len(f.Kids)]}
}

// untouchedFormula reports whether f is still the roomy copy of before.
func untouchedFormula(f, before impl.Formula) bool {
	if f.Kind != before.Kind || f.Atom != before.Atom || len(f.Kids) != len(before.Kids) {
		return false
	}
	for i, kid := range f.Kids[:cap(f.Kids)] {
		if i < len(before.Kids) {
			if !untouchedFormula(kid, before.Kids[i]) {
				return false
			}
		} else if kid.Kind != 77 || kid.Atom != 0 || kid.Kids != nil {
			return false
		}
	}
	return true
}

// overwriteFormulas writes to all the memory that the list refers to.
func overwriteFormulas(list []impl.Formula) {
	list = list[:cap(list)]
	for i := range list {
		overwriteFormulas(list[i].Kids)
		list[i] = impl.Formula{Kind: 99, Atom: 99}
	}
}

// formulaPlaces collects the addresses of all elements of the list and of all
// their operands.
func formulaPlaces(list []impl.Formula, found []*impl.Formula) []*impl.Formula {
	list = list[:cap(list)]
	for i := range list {
		found = append(formulaPlaces(list[i].Kids, found), &list[i])
	}
	return found
}

func noFormulaTwice(t *testing.T, what string, list []impl.Formula) {
	t.Helper()
	seen := map[*impl.Formula]bool{}
	for _, p := range formulaPlaces(list, nil) {
		if seen[p] {
			t.Errorf("%s: two parts of the result share memory", what)
		}
		seen[p] = true
	}
}

// formulaResults calls the functions that return formulas and returns the lists
// of their results.
func formulaResults(f impl.Formula) map[string][]impl.Formula {
	parsed, _ := impl.ParseFormula(formulaText(f))
	normal, _ := impl.NormalForm(f)
	negation, _ := impl.NegateFormula(f)
	return map[string][]impl.Formula{
		"ParseFormula":  {parsed},
		"NormalForm":    {normal},
		"NegateFormula": {negation},
		"Subformulas":   impl.Subformulas(f),
	}
}

func memoryFormulas() []impl.Formula {
	list := append(largerFormulas(), truth(), atom(2))
	for _, text := range []string{"!(p&q)", "!!(pUq)", "!((p&q)U(p&q))", "((p&q)U(p&q))", "GFp", "(Fp&Fp)", "!Fp", "!Gp"} {
		f, _ := impl.ParseFormula(text)
		list = append(list, f)
	}
	return list
}

func TestFormulaArgumentsStay(t *testing.T) {
	for _, before := range memoryFormulas() {
		f := roomyFormula(before)
		impl.FormulaValid(f)
		impl.FormulaSame(f, f)
		impl.FormulaSame(f, before)
		impl.FormulaSame(before, f)
		impl.FormulaNodes(f)
		impl.FormatFormula(f)
		if !untouchedFormula(f, before) {
			t.Errorf("%s is changed", formulaText(before))
		}
		for what, list := range formulaResults(f) {
			if !untouchedFormula(f, before) {
				t.Errorf("%s(%s) changes its argument", what, formulaText(before))
			}
			overwriteFormulas(list)
			if !untouchedFormula(f, before) {
				t.Fatalf("%s(%s) shares memory with its argument", what, formulaText(before))
			}
		}
	}
}

func TestFormulaResultsShareNoMemory(t *testing.T) {
	for _, f := range memoryFormulas() {
		first, second := formulaResults(f), formulaResults(f)
		want := map[string]string{}
		for what, list := range second {
			noFormulaTwice(t, what+" of "+formulaText(f), first[what])
			want[what] = textsOf(list)
		}
		for what, list := range first {
			overwriteFormulas(list)
			for other := range second {
				if textsOf(second[other]) != want[other] {
					t.Fatalf("results of %s and %s of %s share memory", what, other, formulaText(f))
				}
			}
		}
		for what, list := range formulaResults(f) {
			if textsOf(list) != want[what] {
				t.Errorf("%s(%s) is different after its results are overwritten", what, formulaText(f))
			}
		}
	}
}

// An argument in which two operands are the same memory gives a result in which
// they are not.
func TestFormulaResultsOfSharedOperands(t *testing.T) {
	kids := []impl.Formula{atom(0), atom(1)}
	part := impl.Formula{Kind: impl.FormulaUntil, Kids: kids}
	f := formulaOf(impl.FormulaNot, formulaOf(impl.FormulaAnd, part, part))
	for what, list := range formulaResults(f) {
		noFormulaTwice(t, what, list)
		overwriteFormulas(list)
		if !equalFormulas(part, formulaOf(impl.FormulaUntil, atom(0), atom(1))) {
			t.Fatalf("%s shares memory with its argument", what)
		}
	}
}
