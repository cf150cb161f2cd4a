package tests

import (
	"math"
	"slices"
	"testing"

	"loop.example/ltlcheck/impl"
)

// roomyLasso returns a copy of l whose lists are parts of longer ones.
func roomyLasso(l impl.Lasso) impl.Lasso {
	return impl.Lasso{Stem: roomyInts(l.Stem), Loop: roomyInts(l.Loop)}
}

// untouchedLasso reports whether l is still the roomy copy of before.
func untouchedLasso(l, before impl.Lasso) bool {
	return untouchedInts(l.Stem, before.Stem) && untouchedInts(l.Loop, before.Loop)
}

func overwriteLasso(l impl.Lasso) {
	overwriteInts(l.Stem)
	overwriteInts(l.Loop)
}

func copyLasso(l impl.Lasso) impl.Lasso {
	return impl.Lasso{Stem: slices.Clone(l.Stem), Loop: slices.Clone(l.Loop)}
}

// lassoCalls returns the calls that return a lasso.
func lassoCalls(l impl.Lasso) []func() impl.Lasso {
	calls := []func() impl.Lasso{
		func() impl.Lasso { reduced, _ := impl.ReduceLasso(l); return reduced },
		func() impl.Lasso { parsed, _ := impl.ParseLasso(impl.FormatLasso(l)); return parsed },
	}
	for _, i := range []int{0, 1, len(l.Stem) - 1, len(l.Stem), len(l.Stem) + 1, len(l.Stem) + len(l.Loop), math.MaxInt, -1} {
		calls = append(calls, func() impl.Lasso { suffix, _ := impl.SuffixAt(l, i); return suffix })
	}
	return calls
}

func TestLassoArgumentsStay(t *testing.T) {
	list := sampleLassos()
	for _, l := range invalidLassos() {
		list = append(list, l)
	}
	formulas := memoryFormulas()
	for i, before := range list {
		l, formulaBefore := roomyLasso(before), formulas[i%len(formulas)]
		f := roomyFormula(formulaBefore)
		impl.LassoValid(l)
		impl.LassoSame(l, l)
		impl.LassoSame(l, before)
		impl.LassoSame(before, l)
		impl.LetterAt(l, 0)
		impl.LetterAt(l, math.MaxInt)
		impl.Satisfies(l, f)
		impl.SameWord(l, l)
		impl.SameWord(l, before)
		impl.SameWord(before, l)
		impl.FormatLasso(l)
		if !untouchedLasso(l, before) || !untouchedFormula(f, formulaBefore) {
			t.Fatalf("%.99v or %s is changed", before, formulaText(formulaBefore))
		}
		for k, call := range lassoCalls(l) {
			result := call()
			if !untouchedLasso(l, before) {
				t.Fatalf("call %d changes its argument %.99v", k, before)
			}
			overwriteLasso(result)
			if !untouchedLasso(l, before) {
				t.Fatalf("the result of call %d shares memory with its argument %.99v", k, before)
			}
		}
	}
}

func TestLassoResultsShareNoMemory(t *testing.T) {
	for _, l := range sampleLassos() {
		for k, call := range lassoCalls(l) {
			first, second := call(), call()
			want := copyLasso(second)
			noIntTwice(t, lassoText(l), [][]int{first.Stem, first.Loop, second.Stem, second.Loop})
			overwriteLasso(first)
			if third := call(); !equalLassos(second, want) || !equalLassos(third, want) {
				t.Fatalf("%s: two results of call %d share memory", lassoText(l), k)
			}
		}
	}
}

// A caller may use one list for several purposes.
func TestLassosOfSharedLists(t *testing.T) {
	list := []int{1, 2, 1, 2, 0}
	l := impl.Lasso{Stem: list[:4], Loop: list[:4]}
	if text := impl.FormatLasso(l); text != "1212(1212)" || !mustSatisfy(t, l, mustParseFormula(t, "G(pUq)")) {
		t.Errorf("a lasso of one list is treated differently: %q", text)
	}
	reduced, ok := impl.ReduceLasso(l)
	if !ok || !equalLassos(reduced, lassoFrom("(12)")) {
		t.Errorf("ReduceLasso = %v, %v", reduced, ok)
	}
	for _, call := range lassoCalls(l) {
		result := call()
		noIntTwice(t, "a lasso of one list", [][]int{result.Stem, result.Loop})
		overwriteLasso(result)
	}
	if !slices.Equal(list, []int{1, 2, 1, 2, 0}) {
		t.Errorf("the list is changed: %v", list)
	}
	overlapping := impl.Lasso{Stem: list[:3], Loop: list[2:]}
	if text := impl.FormatLasso(overlapping); text != "121(120)" {
		t.Errorf("FormatLasso of overlapping lists = %q", text)
	}
}
