package tests

import (
	"strconv"
	"strings"
	"testing"

	"loop.example/ltlcheck/impl"
)

// binaryKinds are the kinds with two operands and their signs.
var binaryKinds = []struct {
	kind int
	sign string
}{
	{impl.ExprAnd, "&"}, {impl.ExprOr, "|"}, {impl.ExprEqual, "="},
	{impl.ExprLess, "<"}, {impl.ExprAdd, "+"}, {impl.ExprSub, "-"},
}

func constant(v int) impl.Expr { return impl.Expr{Kind: impl.ExprConst, Value: v} }

func variable(i int) impl.Expr { return impl.Expr{Kind: impl.ExprVar, Value: i} }

func not(a impl.Expr) impl.Expr {
	return impl.Expr{Kind: impl.ExprNot, Kids: []impl.Expr{a}}
}

func binary(kind int, a, b impl.Expr) impl.Expr {
	return impl.Expr{Kind: kind, Kids: []impl.Expr{a, b}}
}

// nots returns e with n negations in front of it.
func nots(n int, e impl.Expr) impl.Expr {
	for range n {
		e = not(e)
	}
	return e
}

// fullSum returns the sum of 2 to the power of depth - 1 leaves.
func fullSum(depth int, leaf impl.Expr) impl.Expr {
	if depth == 1 {
		return leaf
	}
	return binary(impl.ExprAdd, fullSum(depth-1, leaf), fullSum(depth-1, leaf))
}

// chain returns a sum of terms leaves that is terms deep.
func chain(terms int, leaf impl.Expr) impl.Expr {
	e := leaf
	for range terms - 1 {
		e = binary(impl.ExprAdd, e, leaf)
	}
	return e
}

// cyclic returns an expression whose operand is the expression itself.
func cyclic(kind int, kids int) impl.Expr {
	list := make([]impl.Expr, kids)
	for i := range list {
		list[i] = impl.Expr{Kind: kind, Kids: list}
	}
	return impl.Expr{Kind: kind, Kids: list}
}

// sharedTower has 2 to the power of levels leaves but only levels + 1 lists.
func sharedTower(levels int, leaf impl.Expr) impl.Expr {
	e := leaf
	for range levels {
		e = binary(impl.ExprAdd, e, e)
	}
	return e
}

func mustParse(t *testing.T, text string) impl.Expr {
	t.Helper()
	e, ok := impl.ParseExpr(text)
	if !ok {
		t.Fatalf("ParseExpr(%q) = false", text)
	}
	return e
}

// equalExprs is the test's own comparison, for finite expressions.
func equalExprs(a, b impl.Expr) bool {
	if a.Kind != b.Kind || a.Value != b.Value || len(a.Kids) != len(b.Kids) {
		return false
	}
	for i := range a.Kids {
		if !equalExprs(a.Kids[i], b.Kids[i]) {
			return false
		}
	}
	return true
}

func isZero(e impl.Expr) bool { return e.Kind == 0 && e.Value == 0 && len(e.Kids) == 0 }

func countOf(e impl.Expr) int {
	n := 1
	for _, kid := range e.Kids {
		n += countOf(kid)
	}
	return n
}

func depthOf(e impl.Expr) int {
	d := 0
	for _, kid := range e.Kids {
		d = max(d, depthOf(kid))
	}
	return d + 1
}

func textOf(e impl.Expr) string {
	switch e.Kind {
	case impl.ExprConst:
		return strconv.Itoa(e.Value)
	case impl.ExprVar:
		return string("xyz"[e.Value])
	case impl.ExprNot:
		return "!" + textOf(e.Kids[0])
	}
	for _, b := range binaryKinds {
		if b.kind == e.Kind {
			return "(" + textOf(e.Kids[0]) + b.sign + textOf(e.Kids[1]) + ")"
		}
	}
	return "?"
}

func bit(b bool) int {
	if b {
		return 1
	}
	return 0
}

// valueOf is the table of the document, written down once more.
func valueOf(e impl.Expr, vals []int) int {
	switch e.Kind {
	case impl.ExprConst:
		return e.Value
	case impl.ExprVar:
		return vals[e.Value]
	case impl.ExprNot:
		return bit(valueOf(e.Kids[0], vals) == 0)
	}
	a, b := valueOf(e.Kids[0], vals), valueOf(e.Kids[1], vals)
	switch e.Kind {
	case impl.ExprAnd:
		return bit(a > 0 && b > 0)
	case impl.ExprOr:
		return bit(a > 0 || b > 0)
	case impl.ExprEqual:
		return bit(a == b)
	case impl.ExprLess:
		return bit(a < b)
	case impl.ExprAdd:
		return (a + b) & 3
	}
	return (a - b) & 3
}

// replaced is the substitution without any limit.
func replaced(e impl.Expr, v int, by impl.Expr) impl.Expr {
	if e.Kind == impl.ExprVar && e.Value == v {
		return by
	}
	r := impl.Expr{Kind: e.Kind, Value: e.Value}
	for _, kid := range e.Kids {
		r.Kids = append(r.Kids, replaced(kid, v, by))
	}
	return r
}

func leaves() []impl.Expr {
	var list []impl.Expr
	for v := range impl.MaxValue + 1 {
		list = append(list, constant(v))
	}
	for i := range impl.MaxVars {
		list = append(list, variable(i))
	}
	return list
}

// sampleExprs returns all expressions of depth 1 and 2, and larger ones up to
// the limits.
func sampleExprs() []impl.Expr {
	list := leaves()
	for _, a := range leaves() {
		list = append(list, not(a))
		for _, k := range binaryKinds {
			for _, b := range leaves() {
				list = append(list, binary(k.kind, a, b))
			}
		}
	}
	return append(list, largerExprs()...)
}

func largerExprs() []impl.Expr {
	x, y, z := variable(0), variable(1), variable(2)
	list := []impl.Expr{
		fullSum(4, x), fullSum(4, z), chain(6, y), chain(6, constant(3)),
		nots(5, x), nots(3, y), nots(2, fullSum(3, y)), nots(3, binary(impl.ExprSub, x, z)),
		fullSum(3, x), chain(4, x), nots(4, z),
		binary(impl.ExprAdd, x, chain(5, y)),
	}
	for i, k := range binaryKinds {
		other := binaryKinds[(i+2)%len(binaryKinds)].kind
		list = append(list,
			binary(k.kind, not(x), binary(other, y, constant(2))),
			binary(k.kind, binary(other, x, x), not(binary(k.kind, z, x))),
			binary(k.kind, not(binary(other, constant(1), y)), binary(k.kind, y, not(not(x)))),
		)
	}
	return list
}

func allVals() [][]int {
	var list [][]int
	for x := range impl.MaxValue + 1 {
		for y := range impl.MaxValue + 1 {
			for z := range impl.MaxValue + 1 {
				list = append(list, []int{x, y, z})
			}
		}
	}
	return list
}

// invalidExprs has an expression for each way to miss the definition.
func invalidExprs() map[string]impl.Expr {
	x := variable(0)
	list := map[string]impl.Expr{
		"zero value":              {},
		"kind -1":                 {Kind: -1},
		"kind 0 with operands":    {Kids: []impl.Expr{x, x}},
		"kind 10":                 {Kind: 10},
		"kind 10 with operands":   {Kind: 10, Kids: []impl.Expr{x, x}},
		"kind 1<<40":              {Kind: 1 << 40},
		"constant -1":             constant(-1),
		"constant 4":              constant(4),
		"variable -1":             variable(-1),
		"variable 3":              variable(3),
		"constant with operand":   {Kind: impl.ExprConst, Kids: []impl.Expr{x}},
		"variable with operand":   {Kind: impl.ExprVar, Kids: []impl.Expr{x}},
		"not with 0":              {Kind: impl.ExprNot},
		"not with 2":              {Kind: impl.ExprNot, Kids: []impl.Expr{x, x}},
		"not with Value 1":        {Kind: impl.ExprNot, Value: 1, Kids: []impl.Expr{x}},
		"not with Value -1":       {Kind: impl.ExprNot, Value: -1, Kids: []impl.Expr{x}},
		"16 nodes":                not(fullSum(4, x)),
		"17 nodes":                binary(impl.ExprAdd, fullSum(4, x), x),
		"depth 7":                 nots(6, x),
		"depth 7 to the left":     chain(7, x),
		"depth 7 to the right":    binary(impl.ExprOr, x, nots(5, x)),
		"nested kind 10":          not(binary(impl.ExprAnd, x, impl.Expr{Kind: 10})),
		"nested constant 4":       binary(impl.ExprLess, constant(4), x),
		"nested not without any":  binary(impl.ExprLess, x, impl.Expr{Kind: impl.ExprNot}),
		"63 nodes":                fullSum(6, x),
		"far too deep":            nots(200000, x),
		"shared, 2^60 leaves":     sharedTower(60, x),
		"not of itself":           cyclic(impl.ExprNot, 1),
		"sum of itself":           cyclic(impl.ExprAdd, 2),
		"very many operands":      {Kind: impl.ExprAnd, Kids: make([]impl.Expr, 100000)},
		"constant of many":        {Kind: impl.ExprConst, Kids: make([]impl.Expr, 100000)},
		"depth 6, 15 nodes, bad":  binary(impl.ExprAdd, nots(4, x), impl.Expr{Kind: impl.ExprAdd, Value: 2, Kids: []impl.Expr{x, x}}),
		"a variable in the guise": {Kind: impl.ExprAdd, Value: 0, Kids: []impl.Expr{x, {Kind: impl.ExprVar, Value: 1, Kids: []impl.Expr{{}}}}},
	}
	for _, k := range binaryKinds {
		for _, n := range []int{0, 1, 3} {
			e := impl.Expr{Kind: k.kind}
			for range n {
				e.Kids = append(e.Kids, x)
			}
			list[k.sign+" with "+strconv.Itoa(n)] = e
		}
		for _, v := range []int{-1, 1, 3} {
			e := binary(k.kind, x, x)
			e.Value = v
			list[k.sign+" with Value "+strconv.Itoa(v)] = e
		}
	}
	return list
}

func TestExprValidAccepts(t *testing.T) {
	for _, e := range sampleExprs() {
		if !impl.ExprValid(e) {
			t.Errorf("ExprValid(%s) = false", textOf(e))
		}
	}
	empty := impl.Expr{Kind: impl.ExprConst, Kids: []impl.Expr{}}
	if !impl.ExprValid(empty) {
		t.Error("an empty slice of operands is not accepted as none")
	}
}

func TestExprInvalid(t *testing.T) {
	for name, e := range invalidExprs() {
		if impl.ExprValid(e) {
			t.Errorf("%s: ExprValid = true", name)
		}
		if n := impl.ExprNodes(e); n != 0 {
			t.Errorf("%s: ExprNodes = %d", name, n)
		}
		if v := impl.ExprVars(e); len(v) != 0 {
			t.Errorf("%s: ExprVars = %v", name, v)
		}
		if s := impl.FormatExpr(e); s != "" {
			t.Errorf("%s: FormatExpr = %q", name, s)
		}
		if v, ok := impl.EvalExpr(e, []int{1, 2, 3}); ok || v != 0 {
			t.Errorf("%s: EvalExpr = %d, %v", name, v, ok)
		}
		if r, ok := impl.SubstExpr(e, 0, constant(1)); ok || !isZero(r) {
			t.Errorf("%s: SubstExpr in it = %v, %v", name, r, ok)
		}
		if r, ok := impl.SubstExpr(variable(0), 0, e); ok || !isZero(r) {
			t.Errorf("%s: SubstExpr by it = %v, %v", name, r, ok)
		}
		// Here the variable does not occur, so the result would be valid.
		if r, ok := impl.SubstExpr(variable(0), 1, e); ok || !isZero(r) {
			t.Errorf("%s: SubstExpr by it of no variable = %v, %v", name, r, ok)
		}
	}
}

func TestExprLimitsAreInclusive(t *testing.T) {
	x := variable(0)
	for _, c := range []struct {
		name string
		e    impl.Expr
		want int
	}{
		{"15 nodes", fullSum(4, x), 15},
		{"16 nodes", not(fullSum(4, x)), 0},
		{"15 nodes, depth 6", nots(2, binary(impl.ExprAdd, fullSum(3, x), binary(impl.ExprAdd, not(x), not(x)))), 15},
		{"16 nodes, depth 6", nots(2, binary(impl.ExprAdd, fullSum(3, x), binary(impl.ExprAdd, not(x), nots(2, x)))), 0},
		{"depth 6", nots(5, x), 6},
		{"depth 7", nots(6, x), 0},
		{"depth 6 by sums", chain(6, x), 11},
		{"depth 7 by sums", chain(7, x), 0},
		{"value 3", constant(3), 1},
		{"value 4", constant(4), 0},
		{"value 0", constant(0), 1},
		{"variable 2", variable(2), 1},
		{"variable 3", variable(3), 0},
	} {
		if n := impl.ExprNodes(c.e); n != c.want {
			t.Errorf("%s: ExprNodes = %d, want %d", c.name, n, c.want)
		}
		if ok := impl.ExprValid(c.e); ok != (c.want > 0) {
			t.Errorf("%s: ExprValid = %v", c.name, ok)
		}
	}
}

func TestExprNodes(t *testing.T) {
	for _, e := range sampleExprs() {
		if n := impl.ExprNodes(e); n != countOf(e) {
			t.Errorf("ExprNodes(%s) = %d, want %d", textOf(e), n, countOf(e))
		}
	}
}

func TestExprVars(t *testing.T) {
	for _, e := range sampleExprs() {
		got := impl.ExprVars(e)
		if len(got) != impl.MaxVars {
			t.Fatalf("ExprVars(%s) has %d elements", textOf(e), len(got))
		}
		for i, occurs := range got {
			if want := strings.Contains(textOf(e), "xyz"[i:i+1]); occurs != want {
				t.Errorf("ExprVars(%s)[%d] = %v", textOf(e), i, occurs)
			}
		}
	}
}

func TestExprSame(t *testing.T) {
	list := sampleExprs()
	for i, a := range list {
		for j, b := range list {
			if got := impl.ExprSame(a, b); got != (i == j || equalExprs(a, b)) {
				t.Errorf("ExprSame(%s, %s) = %v", textOf(a), textOf(b), got)
			}
		}
	}
}

func TestExprSameAcceptsInvalid(t *testing.T) {
	x := variable(0)
	deep := func() impl.Expr { return nots(200000, x) }
	for _, c := range []struct {
		name string
		a, b impl.Expr
		want bool
	}{
		{"zero values", impl.Expr{}, impl.Expr{}, true},
		{"nil and empty", impl.Expr{}, impl.Expr{Kids: []impl.Expr{}}, true},
		{"kinds", impl.Expr{Kind: -7}, impl.Expr{Kind: -8}, false},
		{"values", constant(9), constant(10), false},
		{"unused values", binary(impl.ExprAdd, x, x), impl.Expr{Kind: impl.ExprAdd, Value: 1, Kids: []impl.Expr{x, x}}, false},
		{"numbers of operands", impl.Expr{Kind: 4, Kids: []impl.Expr{x}}, impl.Expr{Kind: 4, Kids: []impl.Expr{x, x}}, false},
		{"operands and none", impl.Expr{Kind: 4, Kids: []impl.Expr{{}}}, impl.Expr{Kind: 4}, false},
		{"last operand", binary(99, x, constant(8)), binary(99, x, constant(7)), false},
		{"order of operands", binary(99, x, constant(8)), binary(99, constant(8), x), false},
		{"operands of a leaf", impl.Expr{Kind: 1, Kids: []impl.Expr{x}}, impl.Expr{Kind: 1, Kids: []impl.Expr{x}}, true},
		{"deep", deep(), deep(), true},
		{"deep, another leaf", deep(), nots(200000, variable(1)), false},
		{"deep, deeper", deep(), nots(200001, x), false},
		{"shared", sharedTower(60, x), sharedTower(60, x), true},
		{"shared, another leaf", sharedTower(60, x), sharedTower(60, variable(1)), false},
		{"shared and not", sharedTower(5, x), fullSum(6, x), true},
		{"cycles", cyclic(impl.ExprNot, 1), cyclic(impl.ExprNot, 1), true},
		{"cycles of two kinds", cyclic(impl.ExprNot, 1), cyclic(impl.ExprAdd, 1), false},
		{"cycles of two widths", cyclic(impl.ExprAdd, 1), cyclic(impl.ExprAdd, 2), false},
		{"cycle and path", cyclic(impl.ExprNot, 1), nots(50, x), false},
		{"cycle entered later", cyclic(impl.ExprNot, 1), nots(3, cyclic(impl.ExprNot, 1)), true},
	} {
		if got := impl.ExprSame(c.a, c.b); got != c.want {
			t.Errorf("%s: ExprSame = %v, want %v", c.name, got, c.want)
		}
		if got := impl.ExprSame(c.b, c.a); got != c.want {
			t.Errorf("%s: ExprSame the other way = %v, want %v", c.name, got, c.want)
		}
	}
}

// Lists of different lengths that start at the same place are different lists.
func TestExprSameOfOverlappingLists(t *testing.T) {
	list := []impl.Expr{variable(0), variable(1), variable(2)}
	a := impl.Expr{Kind: 50, Kids: []impl.Expr{{Kind: 4, Kids: list[:2]}, {Kind: 4, Kids: list[:2]}}}
	b := impl.Expr{Kind: 50, Kids: []impl.Expr{{Kind: 4, Kids: list[:2]}, {Kind: 4, Kids: list[:3]}}}
	if impl.ExprSame(a, b) {
		t.Error("a list equals a longer one that starts at the same place")
	}
	c := impl.Expr{Kind: 50, Kids: []impl.Expr{{Kind: 4, Kids: list[:2]}, {Kind: 4, Kids: list[1:3]}}}
	if impl.ExprSame(a, c) {
		t.Error("a list equals another one that it overlaps")
	}
	// Up to the second element the lists are equal, and both pairs of lists
	// start at the same two places, in either order.
	other := []impl.Expr{variable(0), variable(1), variable(1)}
	parts := func(list []impl.Expr, first, second int) impl.Expr {
		return impl.Expr{Kind: 50, Kids: []impl.Expr{{Kind: 4, Kids: list[:first]}, {Kind: 4, Kids: list[:second]}}}
	}
	if impl.ExprSame(parts(list, 2, 3), parts(other, 2, 3)) || impl.ExprSame(parts(list, 3, 2), parts(other, 3, 2)) {
		t.Error("a list equals one with another last element")
	}
	if !impl.ExprSame(parts(list, 1, 2), parts(other, 1, 2)) {
		t.Error("equal parts of two lists are not equal")
	}
}

func TestFormatExpr(t *testing.T) {
	x, y := variable(0), variable(1)
	for _, c := range []struct {
		e    impl.Expr
		want string
	}{
		{binary(impl.ExprEqual, binary(impl.ExprAdd, x, y), constant(1)), "((x+y)=1)"},
		{constant(0), "0"}, {constant(3), "3"}, {variable(2), "z"},
		{not(not(x)), "!!x"},
		{not(binary(impl.ExprLess, x, y)), "!(x<y)"},
		{binary(impl.ExprAnd, not(x), y), "(!x&y)"},
		{binary(impl.ExprOr, x, binary(impl.ExprSub, y, constant(2))), "(x|(y-2))"},
	} {
		if got := impl.FormatExpr(c.e); got != c.want {
			t.Errorf("FormatExpr = %q, want %q", got, c.want)
		}
	}
	for _, e := range sampleExprs() {
		if got := impl.FormatExpr(e); got != textOf(e) {
			t.Errorf("FormatExpr = %q, want %q", got, textOf(e))
		}
	}
}

func TestParseExprReadsTexts(t *testing.T) {
	for _, e := range sampleExprs() {
		got, ok := impl.ParseExpr(textOf(e))
		if !ok || !equalExprs(got, e) {
			t.Errorf("ParseExpr(%q) = %v, %v", textOf(e), got, ok)
		}
	}
}

func TestParseExprRefuses(t *testing.T) {
	texts := []string{
		"", " ", "x ", " x", "( x+y)", "(x +y)", "x\n", "x\x00", "4", "9", "-1", "00", "01", "10", "33",
		"w", "X", "xy", "T", "p", "\xff", "é", "!", "!!", "!!!!!", "x!", "(", ")", "()", "(x)", "((x))",
		"x+y", "x+", "+x", "(+x)", "(x+)", "(x+y", "x+y)", "(x+y))", "((x+y)", "(x+y)z", "(x+y)!", "x)",
		"(x*y)", "(x>y)", "(x==y)", "(x<=y)", "(x&&y)", "(x!y)", "(x!=y)", "(xy)", "(x+y+z)", "(x+y-z)",
		"!(x)", "(!x)", "(x!+y)", "[x+y]", "(x+y]", "(x+4)", "(x+-1)", "(0x)", "(1,2)", "(x+(y)", "(x+y)(x+y)",
		textOf(not(fullSum(4, variable(0)))), textOf(nots(6, variable(0))), textOf(chain(7, variable(1))),
		textOf(binary(impl.ExprOr, variable(0), nots(5, variable(0)))),
		textOf(fullSum(6, variable(0))), textOf(fullSum(7, variable(0))),
		strings.Repeat("!", 1000000) + "x", strings.Repeat("(", 1000000), strings.Repeat("x", 1000000),
		strings.Repeat(")", 1000000), "x" + strings.Repeat(" ", 1000000),
		strings.Repeat("(x+", 100000) + "x" + strings.Repeat(")", 100000),
	}
	for _, text := range texts {
		if e, ok := impl.ParseExpr(text); ok || !isZero(e) {
			t.Errorf("ParseExpr(%.40q) = %v, %v", text, e, ok)
		}
	}
}

// shortTexts returns the texts of at most most bytes of the valid expressions
// that consist of x, 3, negations and sums.
func shortTexts(most int) map[string]bool {
	byLength := make([][]string, most+1)
	byLength[1] = []string{"x", "3"}
	for n := 2; n <= most; n++ {
		for _, a := range byLength[n-1] {
			byLength[n] = append(byLength[n], "!"+a)
		}
		for left := 1; left <= n-4; left++ {
			for _, a := range byLength[left] {
				for _, b := range byLength[n-3-left] {
					byLength[n] = append(byLength[n], "("+a+"+"+b+")")
				}
			}
		}
	}
	texts := map[string]bool{}
	for _, list := range byLength {
		for _, text := range list {
			// Nothing else of at most seven bytes is too deep.
			texts[text] = !strings.HasPrefix(text, "!!!!!!")
		}
	}
	return texts
}

// Every text of up to seven of these bytes is read exactly if it is the text of
// an expression, and then as that expression.
func TestParseExprOfAllShortTexts(t *testing.T) {
	const most, alphabet = 7, "x3!(+)"
	valid := shortTexts(most)
	var try func(text string)
	try = func(text string) {
		e, ok := impl.ParseExpr(text)
		if ok != valid[text] || ok && textOf(e) != text || !ok && !isZero(e) {
			t.Errorf("ParseExpr(%q) = %v, %v", text, e, ok)
		}
		for i := 0; len(text) < most && i < len(alphabet); i++ {
			try(text + alphabet[i:i+1])
		}
	}
	try("")
}

func TestEvalExpr(t *testing.T) {
	for _, c := range []struct {
		text string
		vals []int
		want int
	}{
		{"((x+y)=1)", []int{3, 2, 0}, 1},
		{"(x-y)", []int{0, 1, 0}, 3}, {"(x-y)", []int{0, 3, 0}, 1}, {"(x-y)", []int{3, 0, 0}, 3},
		{"(x-y)", []int{2, 2, 0}, 0}, {"((0-1)-3)", []int{0, 0, 0}, 0},
		{"(x+y)", []int{3, 3, 0}, 2}, {"(x+y)", []int{3, 1, 0}, 0}, {"(x+y)", []int{1, 2, 0}, 3},
		{"((x<y)+(x<z))", []int{1, 2, 3}, 2}, {"((x=x)-(x<x))", []int{2, 0, 0}, 1},
		{"((x<y)=2)", []int{1, 2, 0}, 0}, {"(3&2)", []int{0, 0, 0}, 1}, {"(2|0)", []int{0, 0, 0}, 1},
		{"((3&2)=1)", []int{0, 0, 0}, 1}, {"!2", []int{0, 0, 0}, 0}, {"!0", []int{0, 0, 0}, 1},
		{"!!3", []int{0, 0, 0}, 1}, {"(1&0)", []int{0, 0, 0}, 0}, {"(0|0)", []int{0, 0, 0}, 0},
		{"(3<3)", []int{0, 0, 0}, 0}, {"(3<0)", []int{0, 0, 0}, 0}, {"(0<3)", []int{0, 0, 0}, 1},
		{"z", []int{0, 1, 2}, 2}, {"x", []int{3, 1, 2}, 3},
	} {
		if v, ok := impl.EvalExpr(mustParse(t, c.text), c.vals); !ok || v != c.want {
			t.Errorf("EvalExpr(%s, %v) = %d, %v, want %d", c.text, c.vals, v, ok, c.want)
		}
	}
	for _, e := range sampleExprs() {
		for _, vals := range allVals() {
			if v, ok := impl.EvalExpr(e, vals); !ok || v != valueOf(e, vals) {
				t.Errorf("EvalExpr(%s, %v) = %d, %v, want %d", textOf(e), vals, v, ok, valueOf(e, vals))
			}
		}
	}
}

func TestEvalExprRefusesVals(t *testing.T) {
	for _, vals := range [][]int{
		nil, {}, {1}, {1, 2}, {1, 2, 3, 0}, {0, 0, 0, 0}, {4, 0, 0}, {0, 4, 0}, {0, 0, 4},
		{-1, 0, 0}, {0, -1, 0}, {0, 0, -1}, {0, 0, 1 << 40}, make([]int, 100000),
	} {
		for _, e := range []impl.Expr{constant(1), variable(0), fullSum(4, variable(2))} {
			if v, ok := impl.EvalExpr(e, vals); ok || v != 0 {
				t.Errorf("EvalExpr(%s) with %d values = %d, %v", textOf(e), len(vals), v, ok)
			}
		}
	}
}

func TestSubstExpr(t *testing.T) {
	for _, c := range []struct {
		text     string
		variable int
		by       string
		want     string
	}{
		{"(x+x)", 0, "(y-1)", "((y-1)+(y-1))"},
		{"(x+y)", 0, "(x+1)", "((x+1)+y)"},
		{"(x+y)", 0, "y", "(y+y)"},
		{"(x+y)", 1, "x", "(x+x)"},
		{"!z", 2, "!z", "!!z"},
		{"(x<y)", 2, "3", "(x<y)"},
		{"2", 0, "x", "2"},
		{"x", 0, "((x&y)|(z=0))", "((x&y)|(z=0))"},
	} {
		r, ok := impl.SubstExpr(mustParse(t, c.text), c.variable, mustParse(t, c.by))
		if !ok || impl.FormatExpr(r) != c.want {
			t.Errorf("SubstExpr(%s, %d, %s) = %s, %v", c.text, c.variable, c.by, impl.FormatExpr(r), ok)
		}
	}
}

func TestSubstExprThatBecomesTooLarge(t *testing.T) {
	x, y := variable(0), variable(1)
	for _, c := range []struct {
		name  string
		e, by impl.Expr
		want  bool
	}{
		{"15 nodes", binary(impl.ExprAdd, x, x), fullSum(3, y), true},
		{"16 nodes", not(x), fullSum(4, y), false},
		{"17 nodes", binary(impl.ExprAdd, x, x), not(fullSum(3, y)), false},
		{"120 nodes", fullSum(4, x), fullSum(4, y), false},
		{"depth 6", nots(3, x), nots(2, y), true},
		{"depth 7", nots(3, x), nots(3, y), false},
		{"depth 11", nots(5, x), nots(5, y), false},
		{"depth 6 on the right", binary(impl.ExprOr, y, not(x)), nots(3, y), true},
		{"depth 7 on the right", binary(impl.ExprOr, y, not(x)), nots(4, y), false},
		{"no occurrence", fullSum(4, y), fullSum(4, x), true},
	} {
		r, ok := impl.SubstExpr(c.e, 0, c.by)
		if ok != c.want || !ok && !isZero(r) || ok && !equalExprs(r, replaced(c.e, 0, c.by)) {
			t.Errorf("%s: SubstExpr = %v, %v", c.name, r, ok)
		}
	}
}

func TestSubstExprRefusesVariables(t *testing.T) {
	for _, v := range []int{-1, 3, 4, 1 << 40, -1 << 40} {
		for _, e := range []impl.Expr{constant(1), variable(0), variable(2)} {
			if r, ok := impl.SubstExpr(e, v, constant(0)); ok || !isZero(r) {
				t.Errorf("SubstExpr(%s, %d) = %v, %v", textOf(e), v, r, ok)
			}
		}
	}
}

// Promise 1: substituting an expression for a variable is the same as assigning
// its value to the variable.
func TestSubstitutionIsAssignment(t *testing.T) {
	bys := append(leaves(), largerExprs()...)
	all := allVals()
	for _, e := range sampleExprs() {
		for _, by := range bys {
			for v := range impl.MaxVars {
				checkSubstitution(t, e, v, by, all)
			}
		}
	}
}

func checkSubstitution(t *testing.T, e impl.Expr, v int, by impl.Expr, all [][]int) {
	t.Helper()
	r, ok := impl.SubstExpr(e, v, by)
	want := replaced(e, v, by)
	if fits := countOf(want) <= impl.MaxExprNodes && depthOf(want) <= impl.MaxExprDepth; ok != fits {
		t.Fatalf("SubstExpr(%s, %d, %s) = %v", textOf(e), v, textOf(by), ok)
	}
	if !ok {
		return
	}
	if !equalExprs(r, want) {
		t.Fatalf("SubstExpr(%s, %d, %s) = %s", textOf(e), v, textOf(by), impl.FormatExpr(r))
	}
	// A sample of the values that changes from case to case keeps this short.
	for i := (countOf(want) + v) % 5; i < len(all); i += 5 {
		vals := all[i]
		got, ok1 := impl.EvalExpr(r, vals)
		value, ok2 := impl.EvalExpr(by, vals)
		assigned := append([]int(nil), vals...)
		assigned[v] = value
		direct, ok3 := impl.EvalExpr(e, assigned)
		if !ok1 || !ok2 || !ok3 || got != direct {
			t.Fatalf("%s with %s for variable %d at %v: %d, but %d after the assignment",
				textOf(e), textOf(by), v, vals, got, direct)
		}
	}
}
