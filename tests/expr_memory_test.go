package tests

import (
	"testing"

	"loop.example/ltlcheck/impl"
)

// roomy returns a copy of e in which every list of operands is a part of a
// longer one, whose other elements have the kind 77.
func roomy(e impl.Expr) impl.Expr {
	list := make([]impl.Expr, len(e.Kids)+3)
	for i := range list {
		list[i] = impl.Expr{Kind: 77}
	}
	for i, kid := range e.Kids {
		list[i] = roomy(kid)
	}
	return impl.Expr{Kind: e.Kind, Value: e.Value, Kids: list[:len(e.Kids)]}
}

// untouched reports whether e is still the roomy copy of before.
func untouched(e impl.Expr, before impl.Expr) bool {
	if e.Kind != before.Kind || e.Value != before.Value || len(e.Kids) != len(before.Kids) {
		return false
	}
	all := e.Kids[:cap(e.Kids)]
	for i, kid := range all {
		if i < len(before.Kids) {
			if !untouched(kid, before.Kids[i]) {
				return false
			}
		} else if kid.Kind != 77 || kid.Value != 0 || kid.Kids != nil {
			return false
		}
	}
	return true
}

// overwrite writes to all the memory that e refers to.
func overwrite(e impl.Expr) {
	all := e.Kids[:cap(e.Kids)]
	for i := range all {
		overwrite(all[i])
		all[i] = impl.Expr{Kind: 99, Value: 99}
	}
}

// places collects the addresses of all the operands of e.
func places(e impl.Expr, list []*impl.Expr) []*impl.Expr {
	all := e.Kids[:cap(e.Kids)]
	for i := range all {
		list = append(places(all[i], list), &all[i])
	}
	return list
}

func noPlaceTwice(t *testing.T, what string, e impl.Expr) {
	t.Helper()
	seen := map[*impl.Expr]bool{}
	for _, p := range places(e, nil) {
		if seen[p] {
			t.Errorf("%s: two parts of the result share memory", what)
		}
		seen[p] = true
	}
}

func TestExprArgumentsStay(t *testing.T) {
	for _, before := range largerExprs() {
		e := roomy(before)
		vals := append(make([]int, 0, 8), 1, 2, 3)
		impl.ExprValid(e)
		impl.ExprSame(e, e)
		impl.ExprSame(e, before)
		impl.ExprNodes(e)
		impl.FormatExpr(e)
		impl.EvalExpr(e, vals)
		overwriteBools(impl.ExprVars(e))
		if !untouched(e, before) {
			t.Errorf("%s is changed", textOf(before))
		}
		for i, want := range []int{1, 2, 3, 0, 0, 0, 0, 0} {
			if vals[:8][i] != want {
				t.Errorf("EvalExpr(%s) changes vals", textOf(before))
			}
		}
	}
}

func overwriteBools(list []bool) {
	list = list[:cap(list)]
	for i := range list {
		list[i] = !list[i]
	}
}

func TestSubstExprSharesNoMemory(t *testing.T) {
	bys := []impl.Expr{constant(1), variable(0), not(variable(1)), fullSum(3, variable(0))}
	for _, e := range largerExprs() {
		for _, by := range bys {
			for v := range impl.MaxVars {
				in, with := roomy(e), roomy(by)
				r, ok := impl.SubstExpr(in, v, with)
				if !ok {
					continue
				}
				noPlaceTwice(t, "SubstExpr", r)
				overwrite(r)
				if !untouched(in, e) || !untouched(with, by) {
					t.Errorf("SubstExpr(%s, %d, %s) shares memory with an argument", textOf(e), v, textOf(by))
				}
			}
		}
	}
}

func TestSubstExprByItself(t *testing.T) {
	before := binary(impl.ExprAdd, variable(0), variable(0))
	e := roomy(before)
	r, ok := impl.SubstExpr(e, 0, e)
	if !ok || textOf(r) != "((x+x)+(x+x))" {
		t.Fatalf("SubstExpr = %v, %v", r, ok)
	}
	noPlaceTwice(t, "SubstExpr", r)
	overwrite(r)
	if !untouched(e, before) {
		t.Error("the result shares memory with the argument")
	}
}

func TestResultsShareNoMemory(t *testing.T) {
	for _, e := range largerExprs() {
		text := textOf(e)
		first := mustParse(t, text)
		noPlaceTwice(t, "ParseExpr", first)
		second := mustParse(t, text)
		overwrite(first)
		if third := mustParse(t, text); !equalExprs(second, e) || !equalExprs(third, e) {
			t.Errorf("ParseExpr(%s): two results share memory", text)
		}
		one, two := impl.ExprVars(e), impl.ExprVars(e)
		want := append([]bool(nil), two...)
		overwriteBools(one)
		three := impl.ExprVars(e)
		for i := range want {
			if two[i] != want[i] || three[i] != want[i] {
				t.Errorf("ExprVars(%s): two results share memory", text)
			}
		}
	}
}
