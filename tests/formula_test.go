package tests

import (
	"regexp"
	"strconv"
	"strings"
	"testing"

	"loop.example/ltlcheck/impl"
)

// formulaKinds has the table of the document, written down once more.
var formulaKinds = []struct {
	kind, operands int
	sign           string
}{
	{impl.FormulaTrue, 0, "T"}, {impl.FormulaAtom, 0, "p"}, {impl.FormulaNot, 1, "!"},
	{impl.FormulaAnd, 2, "&"}, {impl.FormulaOr, 2, "|"}, {impl.FormulaNext, 1, "X"},
	{impl.FormulaUntil, 2, "U"}, {impl.FormulaRelease, 2, "R"},
	{impl.FormulaEventually, 1, "F"}, {impl.FormulaAlways, 1, "G"},
}

func truth() impl.Formula { return impl.Formula{Kind: impl.FormulaTrue} }

func atom(i int) impl.Formula { return impl.Formula{Kind: impl.FormulaAtom, Atom: i} }

func formulaOf(kind int, kids ...impl.Formula) impl.Formula {
	return impl.Formula{Kind: kind, Kids: append([]impl.Formula(nil), kids...)}
}

// prefixed returns f with n nodes of the kind in front of it.
func prefixed(n int, kind int, f impl.Formula) impl.Formula {
	for range n {
		f = formulaOf(kind, f)
	}
	return f
}

// fullFormula has 2 to the power of depth - 1 leaves.
func fullFormula(depth int, kind int, leaf impl.Formula) impl.Formula {
	if depth == 1 {
		return leaf
	}
	return formulaOf(kind, fullFormula(depth-1, kind, leaf), fullFormula(depth-1, kind, leaf))
}

// rightChain has the given number of leaves and the same depth.
func rightChain(terms int, kind int, leaf impl.Formula) impl.Formula {
	f := leaf
	for range terms - 1 {
		f = formulaOf(kind, leaf, f)
	}
	return f
}

// cyclicFormula returns a formula whose operands are the formula itself.
func cyclicFormula(kind int, kids int) impl.Formula {
	list := make([]impl.Formula, kids)
	for i := range list {
		list[i] = impl.Formula{Kind: kind, Kids: list}
	}
	return impl.Formula{Kind: kind, Kids: list}
}

// sharedFormula has 2 to the power of levels leaves but only levels lists.
func sharedFormula(levels int, leaf impl.Formula) impl.Formula {
	f := leaf
	for range levels {
		f = formulaOf(impl.FormulaUntil, f, f)
	}
	return f
}

func mustParseFormula(t *testing.T, text string) impl.Formula {
	t.Helper()
	f, ok := impl.ParseFormula(text)
	if !ok || formulaText(f) != text {
		t.Fatalf("ParseFormula(%q) = %v, %v", text, f, ok)
	}
	return f
}

func formulaText(f impl.Formula) string {
	if f.Kind == impl.FormulaAtom {
		return string("pqr"[f.Atom])
	}
	for _, k := range formulaKinds {
		if k.kind == f.Kind && k.operands == 2 {
			return "(" + formulaText(f.Kids[0]) + k.sign + formulaText(f.Kids[1]) + ")"
		}
		if k.kind == f.Kind && k.operands == 1 {
			return k.sign + formulaText(f.Kids[0])
		}
		if k.kind == f.Kind {
			return k.sign
		}
	}
	return "?"
}

// equalFormulas is the test's own comparison, for finite formulas.
func equalFormulas(a, b impl.Formula) bool {
	if a.Kind != b.Kind || a.Atom != b.Atom || len(a.Kids) != len(b.Kids) {
		return false
	}
	for i := range a.Kids {
		if !equalFormulas(a.Kids[i], b.Kids[i]) {
			return false
		}
	}
	return true
}

func isZeroFormula(f impl.Formula) bool { return f.Kind == 0 && f.Atom == 0 && len(f.Kids) == 0 }

func formulaSize(f impl.Formula) (nodes, depth int) {
	for _, kid := range f.Kids {
		n, d := formulaSize(kid)
		nodes, depth = nodes+n, max(depth, d)
	}
	return nodes + 1, depth + 1
}

func withinLimits(f impl.Formula) bool {
	nodes, depth := formulaSize(f)
	return nodes <= impl.MaxFormulaNodes && depth <= impl.MaxFormulaDepth
}

// formulasUpTo returns all formulas of at most the given depth with the leaves.
func formulasUpTo(depth int, leaves []impl.Formula) []impl.Formula {
	if depth == 1 {
		return leaves
	}
	smaller := formulasUpTo(depth-1, leaves)
	list := append([]impl.Formula(nil), leaves...)
	for _, k := range formulaKinds {
		for _, a := range smaller {
			if k.operands == 1 {
				list = append(list, formulaOf(k.kind, a))
			}
			for _, b := range smaller {
				if k.operands == 2 {
					list = append(list, formulaOf(k.kind, a, b))
				}
			}
		}
	}
	return list
}

// smallFormulas returns all formulas of at most three levels with T, p and q.
func smallFormulas() []impl.Formula {
	return formulasUpTo(3, []impl.Formula{truth(), atom(0), atom(1)})
}

// mixedFormula returns a formula of at most the given depth.
func mixedFormula(n *numbers, depth int) impl.Formula {
	k := formulaKinds[n.below(len(formulaKinds))]
	if depth > 3 && k.operands == 0 {
		return mixedFormula(n, depth)
	}
	if depth == 1 || k.operands == 0 {
		return []impl.Formula{truth(), atom(0), atom(1), atom(2)}[n.below(4)]
	}
	f := impl.Formula{Kind: k.kind}
	for range k.operands {
		f.Kids = append(f.Kids, mixedFormula(n, depth-1))
	}
	return f
}

// mixedFormulas returns valid formulas, most of them close to the limits.
func mixedFormulas(count int) []impl.Formula {
	n := &numbers{last: 5}
	var list []impl.Formula
	for len(list) < count {
		f := mixedFormula(n, 1+n.below(impl.MaxFormulaDepth))
		if nodes, _ := formulaSize(f); withinLimits(f) && nodes > 3 {
			list = append(list, f)
		}
	}
	return list
}

// sampleFormulas returns all formulas of depth 1 and 2, and larger ones up to
// the limits.
func sampleFormulas() []impl.Formula {
	list := formulasUpTo(2, []impl.Formula{truth(), atom(0), atom(1), atom(2)})
	return append(list, largerFormulas()...)
}

func largerFormulas() []impl.Formula {
	var list []impl.Formula
	for _, k := range formulaKinds {
		switch k.operands {
		case 1:
			list = append(list,
				prefixed(5, k.kind, atom(1)),
				prefixed(2, k.kind, rightChain(4, impl.FormulaOr, atom(2))),
				formulaOf(impl.FormulaUntil, prefixed(3, k.kind, truth()), prefixed(4, k.kind, atom(0))),
			)
		case 2:
			list = append(list,
				fullFormula(3, k.kind, atom(0)),
				rightChain(6, k.kind, atom(2)),
				formulaOf(k.kind, fullFormula(3, k.kind, truth()), prefixed(3, impl.FormulaNot, atom(1))),
			)
		}
	}
	return append(list, mixedFormulas(60)...)
}

// invalidFormulas has a formula for each way to miss the definition.
func invalidFormulas() map[string]impl.Formula {
	p := atom(0)
	list := map[string]impl.Formula{
		"zero value":             {},
		"kind 0 with operands":   formulaOf(0, p, p),
		"kind 1<<40":             {Kind: 1 << 40},
		"kind -1<<40":            {Kind: -1 << 40},
		"atom -1":                atom(-1),
		"atom 3":                 atom(impl.MaxAtoms),
		"atom 1<<40":             atom(1 << 40),
		"13 nodes":               formulaOf(impl.FormulaAnd, fullFormula(3, impl.FormulaOr, p), prefixed(4, impl.FormulaNext, p)),
		"13 nodes, in pairs":     formulaOf(impl.FormulaAnd, fullFormula(3, impl.FormulaOr, p), formulaOf(impl.FormulaOr, p, formulaOf(impl.FormulaOr, p, p))),
		"13 nodes, with !!":      prefixed(2, impl.FormulaNot, rightChain(6, impl.FormulaAnd, p)),
		"15 nodes":               fullFormula(4, impl.FormulaAnd, p),
		"63 nodes":               fullFormula(6, impl.FormulaUntil, p),
		"depth 7":                prefixed(6, impl.FormulaNext, p),
		"depth 7, only !":        prefixed(6, impl.FormulaNot, p),
		"depth 7, 13 nodes":      rightChain(7, impl.FormulaAnd, p),
		"depth 7 to the left":    formulaOf(impl.FormulaOr, prefixed(5, impl.FormulaAlways, p), p),
		"depth 7 to the right":   formulaOf(impl.FormulaOr, p, prefixed(5, impl.FormulaEventually, p)),
		"nested kind 11":         formulaOf(impl.FormulaNot, formulaOf(impl.FormulaAnd, p, impl.Formula{Kind: 11})),
		"nested kind 0":          formulaOf(impl.FormulaNot, impl.Formula{}),
		"nested atom 3":          formulaOf(impl.FormulaUntil, atom(3), p),
		"nested ! without any":   formulaOf(impl.FormulaUntil, p, formulaOf(impl.FormulaNot)),
		"! of ! with Atom 1":     formulaOf(impl.FormulaNot, impl.Formula{Kind: impl.FormulaNot, Atom: 1, Kids: []impl.Formula{p}}),
		"depth 6, bad at bottom": prefixed(5, impl.FormulaNext, atom(3)),
		"far too deep":           prefixed(200000, impl.FormulaNot, p),
		"shared, 2^60 leaves":    sharedFormula(60, p),
		"X of itself":            cyclicFormula(impl.FormulaNext, 1),
		"! of itself":            cyclicFormula(impl.FormulaNot, 1),
		"R of itself":            cyclicFormula(impl.FormulaRelease, 2),
		"very many operands":     {Kind: impl.FormulaAnd, Kids: make([]impl.Formula, 100000)},
		"atom of many":           {Kind: impl.FormulaAtom, Kids: make([]impl.Formula, 100000)},
	}
	for _, kind := range []int{-1, 0, 11, 12} {
		for n := range 3 {
			f := impl.Formula{Kind: kind, Kids: []impl.Formula{p, p}[:n]}
			list["kind "+strconv.Itoa(kind)+" with "+strconv.Itoa(n)] = f
		}
	}
	for _, k := range formulaKinds {
		for n := range 4 {
			if n != k.operands {
				list[k.sign+" with "+strconv.Itoa(n)] = formulaOf(k.kind, []impl.Formula{p, p, p}[:n]...)
			}
		}
		for _, a := range []int{-1, 1, 2, 3} {
			if k.kind != impl.FormulaAtom {
				f := formulaOf(k.kind, []impl.Formula{p, p}[:k.operands]...)
				f.Atom = a
				list[k.sign+" with Atom "+strconv.Itoa(a)] = f
			}
		}
	}
	return list
}

func TestFormulaValidAccepts(t *testing.T) {
	for _, f := range sampleFormulas() {
		if !impl.FormulaValid(f) {
			t.Errorf("FormulaValid(%s) = false", formulaText(f))
		}
	}
	empty := impl.Formula{Kind: impl.FormulaTrue, Kids: []impl.Formula{}}
	if !impl.FormulaValid(empty) {
		t.Error("an empty slice of operands is not accepted as none")
	}
}

func TestFormulaInvalid(t *testing.T) {
	for name, f := range invalidFormulas() {
		if impl.FormulaValid(f) {
			t.Errorf("%s: FormulaValid = true", name)
		}
		if n := impl.FormulaNodes(f); n != 0 {
			t.Errorf("%s: FormulaNodes = %d", name, n)
		}
		if s := impl.FormatFormula(f); s != "" {
			t.Errorf("%s: FormatFormula = %q", name, s)
		}
		if r, ok := impl.NormalForm(f); ok || !isZeroFormula(r) {
			t.Errorf("%s: NormalForm = %v, %v", name, r, ok)
		}
		if list := impl.Subformulas(f); len(list) != 0 {
			t.Errorf("%s: Subformulas has %d elements", name, len(list))
		}
		if r, ok := impl.NegateFormula(f); ok || !isZeroFormula(r) {
			t.Errorf("%s: NegateFormula = %v, %v", name, r, ok)
		}
	}
}

func TestFormulaLimitsAreInclusive(t *testing.T) {
	p := atom(0)
	for _, c := range []struct {
		name string
		f    impl.Formula
		want int
	}{
		{"12 nodes", formulaOf(impl.FormulaAnd, fullFormula(3, impl.FormulaOr, p), prefixed(3, impl.FormulaNext, p)), 12},
		{"13 nodes", formulaOf(impl.FormulaAnd, fullFormula(3, impl.FormulaOr, p), prefixed(4, impl.FormulaNext, p)), 0},
		{"11 nodes, depth 6", formulaOf(impl.FormulaAnd, rightChain(3, impl.FormulaOr, p), prefixed(4, impl.FormulaNext, truth())), 11},
		{"depth 6", prefixed(5, impl.FormulaNot, p), 6},
		{"depth 7", prefixed(6, impl.FormulaNot, p), 0},
		{"depth 6 by pairs", rightChain(6, impl.FormulaRelease, p), 11},
		{"depth 7 by pairs", rightChain(7, impl.FormulaRelease, p), 0},
		{"depth 6, 12 nodes", formulaOf(impl.FormulaUntil, formulaOf(impl.FormulaNot, p), rightChain(5, impl.FormulaUntil, p)), 12},
		{"atom 0", atom(0), 1},
		{"atom 2", atom(2), 1},
		{"atom 3", atom(3), 0},
		{"atom -1", atom(-1), 0},
		{"true", truth(), 1},
	} {
		if n := impl.FormulaNodes(c.f); n != c.want {
			t.Errorf("%s: FormulaNodes = %d, want %d", c.name, n, c.want)
		}
		if ok := impl.FormulaValid(c.f); ok != (c.want > 0) {
			t.Errorf("%s: FormulaValid = %v", c.name, ok)
		}
	}
}

func TestFormulaNodes(t *testing.T) {
	for _, f := range sampleFormulas() {
		if nodes, _ := formulaSize(f); impl.FormulaNodes(f) != nodes {
			t.Errorf("FormulaNodes(%s) = %d, want %d", formulaText(f), impl.FormulaNodes(f), nodes)
		}
	}
}

func TestFormulaSame(t *testing.T) {
	list := sampleFormulas()
	for i, a := range list {
		for j, b := range list {
			if got := impl.FormulaSame(a, b); got != (i == j || equalFormulas(a, b)) {
				t.Errorf("FormulaSame(%s, %s) = %v", formulaText(a), formulaText(b), got)
			}
		}
	}
}

func TestFormulaSameAcceptsInvalid(t *testing.T) {
	p := atom(0)
	deep := func(n int, leaf impl.Formula) impl.Formula { return prefixed(n, impl.FormulaNot, leaf) }
	for _, c := range []struct {
		name string
		a, b impl.Formula
		want bool
	}{
		{"zero values", impl.Formula{}, impl.Formula{}, true},
		{"nil and empty", impl.Formula{}, impl.Formula{Kids: []impl.Formula{}}, true},
		{"the same kind", impl.Formula{Kind: 11}, impl.Formula{Kind: 11}, true},
		{"kinds", impl.Formula{Kind: -1}, impl.Formula{Kind: 11}, false},
		{"atoms", atom(-1), atom(3), false},
		{"the same atom", atom(3), atom(3), true},
		{"kind and atom exchanged", impl.Formula{Kind: 2, Atom: 1}, impl.Formula{Kind: 1, Atom: 2}, false},
		{"unused atoms", formulaOf(impl.FormulaNot, p), impl.Formula{Kind: impl.FormulaNot, Atom: 1, Kids: []impl.Formula{p}}, false},
		{"numbers of operands", formulaOf(impl.FormulaAnd, p), formulaOf(impl.FormulaAnd, p, p), false},
		{"operands and none", formulaOf(impl.FormulaAnd, impl.Formula{}), formulaOf(impl.FormulaAnd), false},
		{"last operand", formulaOf(99, p, p, atom(8)), formulaOf(99, p, p, atom(7)), false},
		{"order of operands", formulaOf(99, p, atom(8)), formulaOf(99, atom(8), p), false},
		{"operands of a leaf", formulaOf(impl.FormulaTrue, p), formulaOf(impl.FormulaTrue, p), true},
		{"deep", deep(200000, p), deep(200000, p), true},
		{"deep, another leaf", deep(200000, p), deep(200000, atom(1)), false},
		{"deep, deeper", deep(200000, p), deep(200001, p), false},
		{"shared", sharedFormula(60, p), sharedFormula(60, p), true},
		{"shared, another leaf", sharedFormula(60, p), sharedFormula(60, atom(1)), false},
		{"shared and not", sharedFormula(5, p), fullFormula(6, impl.FormulaUntil, p), true},
		{"cycles", cyclicFormula(impl.FormulaNot, 1), cyclicFormula(impl.FormulaNot, 1), true},
		{"cycles of two kinds", cyclicFormula(impl.FormulaNot, 1), cyclicFormula(impl.FormulaNext, 1), false},
		{"cycles of two widths", cyclicFormula(impl.FormulaOr, 1), cyclicFormula(impl.FormulaOr, 2), false},
		{"cycle and path", cyclicFormula(impl.FormulaNot, 1), deep(50, p), false},
		{"cycle entered later", cyclicFormula(impl.FormulaNot, 1), deep(3, cyclicFormula(impl.FormulaNot, 1)), true},
	} {
		if got := impl.FormulaSame(c.a, c.b); got != c.want {
			t.Errorf("%s: FormulaSame = %v, want %v", c.name, got, c.want)
		}
		if got := impl.FormulaSame(c.b, c.a); got != c.want {
			t.Errorf("%s: FormulaSame the other way = %v, want %v", c.name, got, c.want)
		}
	}
}

// Lists of different lengths that start at the same place are different lists.
func TestFormulaSameOfOverlappingLists(t *testing.T) {
	list := []impl.Formula{atom(0), atom(1), atom(2)}
	parts := func(first, second []impl.Formula) impl.Formula {
		return formulaOf(50, impl.Formula{Kind: 4, Kids: first}, impl.Formula{Kind: 4, Kids: second})
	}
	a := parts(list[:2], list[:2])
	if impl.FormulaSame(a, parts(list[:2], list[:3])) || impl.FormulaSame(a, parts(list[:2], list[1:3])) {
		t.Error("a list equals another one that it overlaps")
	}
	other := []impl.Formula{atom(0), atom(1), atom(1)}
	if impl.FormulaSame(parts(list[:2], list), parts(other[:2], other)) || impl.FormulaSame(parts(list, list[:2]), parts(other, other[:2])) {
		t.Error("a list equals one with another last element")
	}
	if !impl.FormulaSame(parts(list[:1], list[:2]), parts(other[:1], other[:2])) {
		t.Error("equal parts of two lists are not equal")
	}
}

func TestFormatFormula(t *testing.T) {
	p, q, r := atom(0), atom(1), atom(2)
	for _, c := range []struct {
		f    impl.Formula
		want string
	}{
		{truth(), "T"}, {p, "p"}, {q, "q"}, {r, "r"},
		{formulaOf(impl.FormulaNot, p), "!p"},
		{formulaOf(impl.FormulaAnd, p, q), "(p&q)"},
		{formulaOf(impl.FormulaOr, q, r), "(q|r)"},
		{formulaOf(impl.FormulaNext, r), "Xr"},
		{formulaOf(impl.FormulaUntil, truth(), p), "(TUp)"},
		{formulaOf(impl.FormulaRelease, p, truth()), "(pRT)"},
		{formulaOf(impl.FormulaEventually, p), "Fp"},
		{formulaOf(impl.FormulaAlways, q), "Gq"},
		{prefixed(3, impl.FormulaNot, truth()), "!!!T"},
		{formulaOf(impl.FormulaNot, formulaOf(impl.FormulaUntil, p, formulaOf(impl.FormulaNext, q))), "!(pUXq)"},
		{formulaOf(impl.FormulaAlways, formulaOf(impl.FormulaOr, p, formulaOf(impl.FormulaEventually, q))), "G(p|Fq)"},
	} {
		if got := impl.FormatFormula(c.f); got != c.want {
			t.Errorf("FormatFormula = %q, want %q", got, c.want)
		}
	}
	for _, f := range sampleFormulas() {
		if got := impl.FormatFormula(f); got != formulaText(f) {
			t.Errorf("FormatFormula = %q, want %q", got, formulaText(f))
		}
	}
}

func TestParseFormulaReadsTexts(t *testing.T) {
	for _, f := range append(sampleFormulas(), mixedFormulas(2000)...) {
		got, ok := impl.ParseFormula(impl.FormatFormula(f))
		if !ok || !equalFormulas(got, f) {
			t.Errorf("ParseFormula(%q) = %v, %v", formulaText(f), got, ok)
		}
	}
}

func TestParseFormulaRefuses(t *testing.T) {
	p := atom(0)
	texts := []string{
		"", " ", "p ", " p", "( p&q)", "(p &q)", "(p& q)", "(p&q )", "! p", "X p", "p\n", "p\x00", "\x00", "p\xff",
		"s", "o", "t", "P", "x", "0", "1", "F", "G", "X", "!", "U", "R", "&", "f", "g", "Fs", "\xff", "é", "⊤",
		"pq", "pp", "Tp", "pT", "TT", "p!", "pX", "!!", "XX", "!!!!!", "Xp!", "(", ")", "()", "(p)", "((p))", "(T)",
		"pUq", "pU", "Uq", "(Uq)", "(pU)", "(pUq", "pUq)", "(pUq))", "((pUq)", "(pUq)r", "(pUq)!", "p)", "(p", "(p&q)(p&q)",
		"(pWq)", "(puq)", "(prq)", "(p!q)", "(pXq)", "(pFq)", "(pGq)", "(pTq)", "(pq)", "(p->q)", "(p&&q)", "(p||q)", "(p=q)",
		"(p&q&r)", "(p&q|r)", "!(p)", "(!p)", "(Xp)", "X(p)", "[p&q]", "(p&q]", "(p&s)", "(s&p)", "(p&)", "(&p)", "(p&(q)",
		"(p)&q", "X", "XFG", "XFGs", "(pU(q)", "(pU)q", "<>p", "[]p", "Tr", "true",
		strings.Repeat("!", 1000000) + "p", strings.Repeat("(", 1000000), strings.Repeat("p", 1000000),
		strings.Repeat(")", 1000000), "p" + strings.Repeat(" ", 1000000),
		strings.Repeat("(p&", 100000) + "p" + strings.Repeat(")", 100000),
		formulaText(prefixed(6, impl.FormulaNot, p)), formulaText(prefixed(6, impl.FormulaNext, p)),
		formulaText(rightChain(7, impl.FormulaAnd, p)), formulaText(fullFormula(4, impl.FormulaUntil, p)),
		formulaText(prefixed(2, impl.FormulaNot, rightChain(6, impl.FormulaAnd, p))),
		formulaText(formulaOf(impl.FormulaAnd, fullFormula(3, impl.FormulaOr, p), prefixed(4, impl.FormulaNext, p))),
		formulaText(formulaOf(impl.FormulaOr, p, prefixed(5, impl.FormulaAlways, p))),
		formulaText(fullFormula(6, impl.FormulaUntil, p)), formulaText(fullFormula(7, impl.FormulaUntil, p)),
	}
	for _, text := range texts {
		if f, ok := impl.ParseFormula(text); ok || !isZeroFormula(f) {
			t.Errorf("ParseFormula(%.40q) = %v, %v", text, f, ok)
		}
	}
}

var (
	leafPattern   = regexp.MustCompile(`[Tpqr]`)
	prefixPattern = regexp.MustCompile(`[!XFG][1-9]`)
	pairPattern   = regexp.MustCompile(`\([1-9][&|UR][1-9]\)`)
)

// isFormulaText replaces the texts of formulas by their depths, from the inside
// to the outside, and counts their nodes.
func isFormulaText(text string) bool {
	if strings.ContainsAny(text, "123456789") {
		return false
	}
	nodes := 0
	deeper := func(part string) string {
		nodes++
		depth := 0
		for _, c := range part {
			if c >= '1' && c <= '9' {
				depth = max(depth, int(c-'0'))
			}
		}
		return strconv.Itoa(min(depth+1, 9))
	}
	text = leafPattern.ReplaceAllStringFunc(text, deeper)
	for before := ""; before != text; {
		before = text
		text = prefixPattern.ReplaceAllStringFunc(text, deeper)
		text = pairPattern.ReplaceAllStringFunc(text, deeper)
	}
	return len(text) == 1 && text >= "1" && text <= "6" && nodes <= 12
}

func checkFormulaText(t *testing.T, text string) {
	t.Helper()
	f, ok := impl.ParseFormula(text)
	if ok != isFormulaText(text) || ok && formulaText(f) != text || !ok && !isZeroFormula(f) {
		t.Errorf("ParseFormula(%q) = %v, %v", text, f, ok)
	}
}

// Every text of up to six of these bytes is read exactly if it is the text of
// a formula, and then as that formula.
func TestParseFormulaOfAllShortTexts(t *testing.T) {
	const most, alphabet = 6, "Tp!X(U)s"
	var try func(text string)
	try = func(text string) {
		checkFormulaText(t, text)
		for i := 0; len(text) < most && i < len(alphabet); i++ {
			try(text + alphabet[i:i+1])
		}
	}
	try("")
}

// Texts of formulas with one byte changed, left out or put in.
func TestParseFormulaOfChangedTexts(t *testing.T) {
	const bytes = "Tpr!&|XURFG()s "
	for _, f := range mixedFormulas(40) {
		text := formulaText(f)
		checkFormulaText(t, text)
		for i := range len(text) + 1 {
			for _, c := range bytes {
				checkFormulaText(t, text[:i]+string(c)+text[i:])
				if i < len(text) {
					checkFormulaText(t, text[:i]+string(c)+text[i+1:])
				}
			}
			if i < len(text) {
				checkFormulaText(t, text[:i]+text[i+1:])
			}
		}
	}
}
