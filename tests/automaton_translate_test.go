package tests

import (
	"slices"
	"strings"
	"testing"

	"loop.example/ltlcheck/impl"
)

// partsOf has the subformulas of a normal form in postorder, and what the
// chapter's construction says about them.
type partsOf struct {
	all []impl.Formula
	// kids has, for each of them, the places of its operands.
	kids [][]int
	// basics has the places of the basic formulas.
	basics []int
}

func (p *partsOf) add(f impl.Formula) int {
	var kids []int
	for _, kid := range f.Kids {
		kids = append(kids, p.add(kid))
	}
	for i, known := range p.all {
		if equalFormulas(known, f) {
			return i
		}
	}
	p.all, p.kids = append(p.all, f), append(p.kids, kids)
	if slices.Contains([]int{impl.FormulaAtom, impl.FormulaNext, impl.FormulaUntil, impl.FormulaRelease}, f.Kind) {
		p.basics = append(p.basics, len(p.all)-1)
	}
	return len(p.all) - 1
}

// values returns the value of each part under an assignment.
func (p *partsOf) values(assignment int) []bool {
	list := make([]bool, len(p.all))
	for i, f := range p.all {
		kids := p.kids[i]
		switch f.Kind {
		case impl.FormulaTrue:
			list[i] = true
		case impl.FormulaNot:
			list[i] = !list[kids[0]]
		case impl.FormulaAnd:
			list[i] = list[kids[0]] && list[kids[1]]
		case impl.FormulaOr:
			list[i] = list[kids[0]] || list[kids[1]]
		default:
			list[i] = assignment>>slices.Index(p.basics, i)&1 == 1
		}
	}
	return list
}

// mayFollow says whether the assignment with the values t may follow that with
// the values s.
func (p *partsOf) mayFollow(s, t []bool) bool {
	for _, i := range p.basics {
		kids, want := p.kids[i], s[i]
		switch p.all[i].Kind {
		case impl.FormulaNext:
			want = t[kids[0]]
		case impl.FormulaUntil:
			want = s[kids[1]] || s[kids[0]] && t[i]
		case impl.FormulaRelease:
			want = s[kids[1]] && (s[kids[0]] || t[i])
		}
		if s[i] != want {
			return false
		}
	}
	return true
}

func (p *partsOf) basicFormulas() []impl.Formula {
	var list []impl.Formula
	for _, i := range p.basics {
		list = append(list, p.all[i])
	}
	return list
}

// partsOfNormal returns the parts of the normal form of f, if it has one and
// has not too many basic formulas.
func partsOfNormal(f impl.Formula) (*partsOf, bool) {
	normal := normalOf(f)
	if !withinLimits(f) || !withinLimits(normal) {
		return nil, false
	}
	p := &partsOf{}
	p.add(normal)
	return p, len(p.basics) <= 5
}

// translated is the chapter's construction, written down once more. It has no
// limit of the number of states.
func translated(p *partsOf) impl.Automaton {
	type state struct{ assignment, phase int }
	var values [][]bool
	for s := range 1 << len(p.basics) {
		values = append(values, p.values(s))
	}
	var untils []int
	for _, i := range p.basics {
		if p.all[i].Kind == impl.FormulaUntil {
			untils = append(untils, i)
		}
	}
	fulfils := func(s, until int) bool { return !values[s][until] || values[s][p.kids[until][1]] }
	var found []state
	var a impl.Automaton
	for s := range values {
		if values[s][len(p.all)-1] {
			a.Initial = append(a.Initial, len(found))
			found = append(found, state{s, 0})
		}
	}
	for i := 0; i < len(found); i++ {
		s, phase := found[i].assignment, found[i].phase
		a.Accepting = append(a.Accepting, len(untils) == 0 || phase == 0 && fulfils(s, untils[0]))
		if len(untils) > 0 && fulfils(s, untils[phase]) {
			phase = (phase + 1) % len(untils)
		}
		care, value := 0, 0
		for j, basic := range p.basics {
			if f := p.all[basic]; f.Kind == impl.FormulaAtom {
				care += 1 << f.Atom
				value += (s >> j & 1) << f.Atom
			}
		}
		for t := range values {
			if !p.mayFollow(values[s], values[t]) {
				continue
			}
			to := slices.Index(found, state{t, phase})
			if to < 0 {
				to = len(found)
				found = append(found, state{t, phase})
			}
			a.Edges = append(a.Edges, edge(i, care, value, to))
		}
	}
	if len(found) == 0 {
		a.Accepting = []bool{false}
	}
	return a
}

// checkTranslation checks the construction, and says whether there is one.
func checkTranslation(t *testing.T, f impl.Formula) (impl.Automaton, bool) {
	t.Helper()
	a, ok := impl.TranslateFormula(f)
	p, small := partsOfNormal(f)
	want := impl.Automaton{}
	if small {
		want = translated(p)
	}
	if len(want.Accepting) > 64 {
		want, small = impl.Automaton{}, false
	}
	if ok != small || !equalAutomata(a, want) {
		t.Fatalf("TranslateFormula(%s) = %v, %v, want %v, %v", formulaText(f), a, ok, want, small)
	}
	if ok && !impl.AutomatonValid(a) {
		t.Fatalf("TranslateFormula(%s) is not valid: %v", formulaText(f), a)
	}
	return a, ok
}

func TestBasicFormulas(t *testing.T) {
	for _, c := range []struct{ text, want string }{
		{"T", ""}, {"!T", ""}, {"(T&!T)", ""}, {"p", "p"}, {"!p", "p"}, {"r", "r"}, {"(p&q)", "p q"}, {"(q|p)", "q p"}, {"(r&(p|!q))", "r p q"}, {"((p&q)|(!p&!q))", "p q"},
		{"Xp", "p Xp"}, {"X!p", "p X!p"}, {"!Xp", "p X!p"}, {"XT", "XT"}, {"XXXXp", "p Xp XXp XXXp XXXXp"}, {"(Xp&X!p)", "p Xp X!p"}, {"(pUq)", "p q (pUq)"}, {"(qUp)", "q p (qUp)"},
		{"(pRq)", "p q (pRq)"}, {"!(pUq)", "p q (!pR!q)"}, {"!(pRq)", "p q (!pU!q)"}, {"Fp", "p (TUp)"}, {"Gp", "p (!TRp)"}, {"!Fp", "p (!TR!p)"}, {"!Gp", "p (TU!p)"},
		{"GFp", "p (TUp) (!TR(TUp))"}, {"FGp", "p (!TRp) (TU(!TRp))"}, {"FFFFp", "p (TUp) (TU(TUp)) (TU(TU(TUp))) (TU(TU(TU(TUp))))"}, {"G(Fp&Fq)", "p (TUp) q (TUq) (!TR((TUp)&(TUq)))"},
		{"((pUq)&(pUq))", "p q (pUq)"}, {"(Xp|(q&Xp))", "p Xp q"}, {"(XpU(pUXp))", "p Xp (pUXp) (XpU(pUXp))"}, {"!(pUXq)", "p q X!q (!pRX!q)"}, {"!!p", "p"}, {"((Xp|Xq)&r)", "p Xp q Xq r"},
		{"((TUT)R(TRT))", "(TUT) (TRT) ((TUT)R(TRT))"}, {"(pU(qUr))", "p q r (qUr) (pU(qUr))"}, {"F!!p", "p (TUp)"}, {"G(p|Xp)", "p Xp (!TR(p|Xp))"}, {"(Xp&XXp)", "p Xp XXp"}, {"(XXp&Xp)", "p Xp XXp"},
	} {
		got, ok := impl.BasicFormulas(mustParseFormula(t, c.text))
		if !ok || textsOf(got) != c.want {
			t.Errorf("BasicFormulas(%s) = %s, %v, want %s", c.text, textsOf(got), ok, c.want)
		}
	}
}

// The limit is MaxBasics basic formulas; equal ones count once.
func TestBasicFormulasAtTheLimit(t *testing.T) {
	for _, c := range []struct {
		text string
		want int
	}{
		{"XXXp", 4}, {"XXXXp", 5}, {"XXXXXp", 6}, {"X(Xp&Xq)", 5}, {"(X(Xp&Xq)|r)", 6}, {"(X(Xp&Xp)|Xr)", 5}, {"((Xp|Xq)&r)", 5}, {"((Xp|Xq)&Xr)", 6}, {"(pU(qUXr))", 6}, {"(pU(qUXq))", 5},
		{"(FGp&Gq)", 5}, {"(FGp&GXq)", 6}, {"(GFp&Fq)", 5}, {"(GFp&FXq)", 6}, {"G(Fp&Fq)", 5}, {"G(Fp&(r&Fq))", 6}, {"(Fp|(Gq&Xq))", 5}, {"(Fp|(Gq&Xr))", 6}, {"((pUq)&((qUp)|(pRq)))", 5}, {"((pUq)&((qUp)|(pRXq)))", 6},
		{"((p&(q|r))&XXp)", 5}, {"((p&(q|r))&XXXp)", 6}, {"FFFFp", 5}, {"FFFXp", 5}, {"F(FFp&Fq)", 6}, {"((Xp&Xq)&(Xp&Xq))", 4}, {"((Fp&Fq)&Fr)", 6}, {"XXXXT", 4}, {"XXXXXT", 5},
	} {
		f := mustParseFormula(t, c.text)
		p := &partsOf{}
		if p.add(normalOf(f)); len(p.basics) != c.want || !withinLimits(normalOf(f)) {
			t.Errorf("%s is not such a formula: it has %d basic formulas", c.text, len(p.basics))
		}
		list, ok := impl.BasicFormulas(f)
		if ok != (c.want <= 5) || ok && len(list) != c.want || !ok && len(list) != 0 {
			t.Errorf("BasicFormulas(%s) = %s, %v", c.text, textsOf(list), ok)
		}
		if a, translates := checkTranslation(t, f); translates && !ok || !translates && !isZeroAutomaton(a) {
			t.Errorf("TranslateFormula(%s) = %v, %v", c.text, a, translates)
		}
	}
}

func TestBasicFormulasOfAllFormulas(t *testing.T) {
	few, many := 0, 0
	for _, f := range append(append(smallFormulas(), sampleFormulas()...), mixedFormulas(3000)...) {
		var want []impl.Formula
		p, small := partsOfNormal(f)
		if small {
			want = p.basicFormulas()
		}
		few, many = few+bit(small), many+bit(!small)
		if got, ok := impl.BasicFormulas(f); ok != small || textsOf(got) != textsOf(want) {
			t.Fatalf("BasicFormulas(%s) = %s, %v, want %s, %v", formulaText(f), textsOf(got), ok, textsOf(want), small)
		}
	}
	if few < 10000 || many < 500 {
		t.Errorf("%d formulas have few basic formulas, and %d many", few, many)
	}
}

// Automata that are written down by hand, from the text of the chapter.
func TestTranslateFormula(t *testing.T) {
	for _, c := range []struct{ text, want string }{
		{"T", "1|0|0|0 0 0 0"},
		{"!T", "1||"}, {"(p&!p)", "1||"}, {"(!T|(q&!q))", "1||"}, {"(!T&Xp)", "1||"}, {"(!T&Fp)", "1||"}, {"!!!T", "1||"},
		// The assignments 1 and 0.
		{"p", "2|0|0 1|0 1 1 1|0 1 1 0|1 1 0 1|1 1 0 0"},
		{"!p", "2|0|0 1|0 1 0 0|0 1 0 1|1 1 1 0|1 1 1 1"},
		{"r", "2|0|0 1|0 4 4 1|0 4 4 0|1 4 0 1|1 4 0 0"},
		// The assignments 3, 0, 1 and 2, in which the atoms stand in another order than in letters.
		{"(r&q)", "4|0|0 1 2 3|0 6 6 1|0 6 6 2|0 6 6 3|0 6 6 0|1 6 0 1|1 6 0 2|1 6 0 3|1 6 0 0|2 6 4 1|2 6 4 2|2 6 4 3|2 6 4 0|3 6 2 1|3 6 2 2|3 6 2 3|3 6 2 0"},
		// The assignments 2, 3, 1 and 0.
		{"Xp", "4|0 1|0 1 2 3|0 1 0 2|0 1 0 1|1 1 1 2|1 1 1 1|2 1 1 3|2 1 1 0|3 1 0 3|3 1 0 0"},
		// The assignment 1, and 0, after which there is none.
		{"X!T", "1|0|0"}, {"G!T", "1|0|0"}, {"XT", "2|0|0 1|0 0 0 1|0 0 0 0"},
		// The assignments 2, 3, 0 and 1.
		{"Fp", "4|0 1|1 2 3|0 1 0 0|0 1 0 1|1 1 1 2|1 1 1 3|1 1 1 0|1 1 1 1|2 1 0 2|2 1 0 3"},
		// The assignments 2 and 3.
		{"Gp", "2|0 1|0 1|1 1 1 0|1 1 1 1"},
		// The assignments 4 to 7 and 0 to 3.
		{"(pUq)", "8|0 1 2 3|2 3 4 5 6 7|1 3 1 0|1 3 1 1|1 3 1 2|1 3 1 3|2 3 2 4|2 3 2 5|2 3 2 6|2 3 2 7|2 3 2 0|2 3 2 1|2 3 2 2|2 3 2 3|" +
			"3 3 3 4|3 3 3 5|3 3 3 6|3 3 3 7|3 3 3 0|3 3 3 1|3 3 3 2|3 3 3 3|4 3 0 4|4 3 0 5|4 3 0 6|4 3 0 7|4 3 0 0|4 3 0 1|4 3 0 2|4 3 0 3|5 3 1 4|5 3 1 5|5 3 1 6|5 3 1 7"},
		// The assignments 4 to 7 in phase 0, 4 and 5 in phase 1, 2 and 3 in phase 0, 0 to 3, 6 and 7 in phase 1, and 0 and 1 in phase 0.
		{"FFp", "16|0 1 2 3|0 1 3 7 14 15|0 1 0 4|0 1 0 5|2 1 0 6|2 1 0 7|2 1 0 2|2 1 0 3|3 1 1 8|3 1 1 9|3 1 1 10|3 1 1 11|3 1 1 4|3 1 1 5|3 1 1 12|3 1 1 13|4 1 0 4|4 1 0 5|" +
			"8 1 0 14|8 1 0 15|12 1 0 6|12 1 0 7|12 1 0 2|12 1 0 3|13 1 1 14|13 1 1 15|13 1 1 6|13 1 1 7|13 1 1 0|13 1 1 1|13 1 1 2|13 1 1 3|14 1 0 8|14 1 0 9"},
	} {
		f := mustParseFormula(t, c.text)
		if a, ok := impl.TranslateFormula(f); !ok || !equalAutomata(a, automatonOf(c.want)) {
			t.Errorf("TranslateFormula(%s) = %v, %v, want %s", c.text, a, ok, c.want)
		}
		checkTranslation(t, f)
	}
}

func TestTranslateFormulaOfSmallFormulas(t *testing.T) {
	large := 0
	for _, f := range smallFormulas() {
		_, ok := checkTranslation(t, f)
		large += bit(!ok)
	}
	if large > 2000 {
		t.Errorf("%d of the formulas have no automaton", large)
	}
}

func TestTranslateFormulaOfLargerFormulas(t *testing.T) {
	phases := map[int]int{}
	for _, f := range append(sampleFormulas(), mixedFormulas(6000)...) {
		if _, ok := checkTranslation(t, f); !ok {
			continue
		}
		untils := 0
		basics, _ := impl.BasicFormulas(f)
		for _, basic := range basics {
			untils += bit(basic.Kind == impl.FormulaUntil)
		}
		phases[untils]++
	}
	for untils, least := range []int{500, 300, 100, 20} {
		if phases[untils] < least {
			t.Errorf("only %d of the automata are those of formulas with %d untils", phases[untils], untils)
		}
	}
}

// Without untils each state accepts, unless there is none at all.
func TestTranslateFormulaWithoutUntils(t *testing.T) {
	for _, text := range []string{"T", "p", "!q", "(p&(q|r))", "Xp", "XXXXp", "Gp", "GGp", "(pRq)", "(pR(qRr))", "G(p|Xp)", "!Fp", "!(pUq)", "!(pU!Xq)", "X!T", "G!T", "(Gp|Gq)", "X(pR!q)"} {
		a, ok := checkTranslation(t, mustParseFormula(t, text))
		if !ok || len(a.Initial) == 0 || slices.Contains(a.Accepting, false) {
			t.Errorf("TranslateFormula(%s) = %v, %v", text, a, ok)
		}
	}
	for _, text := range []string{"!T", "(p&!p)", "(!T&Xp)", "(q&(p&!q))"} {
		a, ok := checkTranslation(t, mustParseFormula(t, text))
		if !ok || !equalAutomata(a, automatonOf("1||")) {
			t.Errorf("TranslateFormula(%s) = %v, %v", text, a, ok)
		}
	}
}

// An automaton may have MaxAutomaton states, but not more.
func TestTranslateFormulaAtTheLimit(t *testing.T) {
	for _, c := range []struct {
		text   string
		states int
	}{
		{"G(p|Xp)", 4}, {"XXXXp", 32}, {"FGGp", 10}, {"FFp", 16}, {"FFXp", 28}, {"FX(Fq|!q)", 32}, {"FFFq", 48}, {"XF(X(q&q)&Fq)", 62},
		{"XXFFp", 64}, {"F(GX!rU!!(r|T))", 64}, {"FX!((pRq)|q)", 64}, {"!!((XpUq)UT)", 64}, {"!G(qRX(r&T))", 64},
		{"(FFpUG!p)", 66}, {"FFFGp", 68}, {"FGFFp", 72}, {"FFFXp", 84}, {"FXFFq", 96}, {"FFFFp", 128}, {"FFFFFT", 160},
	} {
		f := mustParseFormula(t, c.text)
		p, small := partsOfNormal(f)
		if !small {
			t.Fatalf("%s has too many basic formulas", c.text)
		}
		a, ok := checkTranslation(t, f)
		states := len(translated(p).Accepting)
		if states != c.states || ok != (states <= 64) || len(a.Accepting) != states*bit(ok) {
			t.Errorf("TranslateFormula(%s) has %d states, %v, and should have %d", c.text, len(a.Accepting), ok, states)
		}
	}
}

func TestTranslateFormulaOfInvalidFormulas(t *testing.T) {
	list := invalidFormulas()
	// These are valid, but they have no normal form.
	for _, text := range []string{"GGGGp", "!(p&(q&(r&(p&q))))", "XXXXGp", "(Xp&GGGp)", "((p&q)&((p&q)&FXXp))", "(p&(p&(p&(p&Gp))))"} {
		list[text] = mustParseFormula(t, text)
	}
	for name, f := range list {
		if basics, ok := impl.BasicFormulas(f); ok || len(basics) != 0 {
			t.Errorf("%s: BasicFormulas = %v, %v", name, basics, ok)
		}
		if a, ok := impl.TranslateFormula(f); ok || !isZeroAutomaton(a) {
			t.Errorf("%s: TranslateFormula = %v, %v", name, a, ok)
		}
	}
}

// checkLanguage checks that the automaton of f accepts exactly the words that
// satisfy f, among those of the list, and says how many do.
func checkLanguage(t *testing.T, f impl.Formula, a impl.Automaton, words []impl.Lasso) int {
	t.Helper()
	count := 0
	for _, l := range words {
		want := mustSatisfy(t, l, f)
		if got := mustAccept(t, a, l); got != want {
			t.Fatalf("Satisfies(%s, %s) = %v, but the automaton says %v", lassoText(l), formulaText(f), want, got)
		}
		count += bit(want)
	}
	return count
}

// Promise 7: the automaton of a formula accepts exactly the words that satisfy
// it. A sample of the words that changes from case to case keeps this short.
func TestAutomataAcceptWhatSatisfiesTheirFormulas(t *testing.T) {
	samples := lassosOf(append(shortWords(), mixedWords(100)...))
	checked, accepted := 0, 0
	for i, f := range append(smallFormulas(), append(sampleFormulas(), mixedFormulas(6000)...)...) {
		a, ok := impl.TranslateFormula(f)
		if !ok {
			continue
		}
		var words []impl.Lasso
		for j := i % 13; j < len(samples); j += 13 {
			words = append(words, samples[j])
		}
		checked += len(words)
		accepted += checkLanguage(t, f, a, words)
	}
	if checked < 100000 || accepted < checked/4 || accepted > checked*3/4 {
		t.Errorf("%d of %d words are accepted", accepted, checked)
	}
}

// Promise 7 for formulas of each form, with all of the words.
func TestAutomataOfEachOperatorAcceptWhatSatisfiesThem(t *testing.T) {
	words := append(sampleLassos(), lassosOf(mixedWords(300))...)
	formulas := formulasUpTo(2, []impl.Formula{truth(), atom(0), atom(1), atom(2)})
	for _, text := range []string{"GFp", "FGp", "G(p|Xp)", "(pU(qUr))", "((pUq)Ur)", "(pR(qUr))", "(pU(qRp))", "G(p|Fq)", "F(p&Xq)", "XXXp", "!(pUXq)", "FFp", "GGq", "((pUq)&(qUp))", "((pUq)|Gp)", "(FpUq)"} {
		formulas = append(formulas, mustParseFormula(t, text))
	}
	for _, f := range formulas {
		a, ok := checkTranslation(t, f)
		if !ok {
			t.Fatalf("TranslateFormula(%s) = %v, %v", formulaText(f), a, ok)
		}
		checkLanguage(t, f, a, words)
	}
}

// Several untils, of which one is postponed forever while the others are fulfilled.
func TestAutomataOfUntilsThatArePostponed(t *testing.T) {
	for _, c := range []struct{ text, accepted, refused string }{
		{"(Fp&Fq)", "(3) (12) 1(2) 12(0) 21(0) 000(0012) 3(0) 2(01)", "(1) (2) (0) 1(1) 2(2) 1(01) 02(02) (4) 00(0) (15) (26)"},
		{"(Fp|Fq)", "(1) (2) 1(0) 2(0) 000(03) (45612)", "(0) (4) 44(04)"},
		{"G(Fp&Fq)", "(3) (12) 0(12) 00(0102) (0003) 4(57612)", "(1) (2) 12(1) 21(2) 12(0) 3333(1) 3(02) (01) 1212(15)"},
		{"((pUq)&(qUp))", "(3) 12(0) 21(0) 112(0) 221(0) 3(0) (12)", "(1) (2) (0) 1(1) 2(2) 102(0) 201(0) 11(1) 22(2) 10(2)"},
		{"((pUq)&(rUq))", "2(0) (2) 52(0) 555(2) (57)", "(5) 5(5) 12(0) 42(0) (1) (4) 5(1) 5(4) 54(2)"},
		{"((pUq)|(qUp))", "1(0) 2(0) 12(0) (1) (2)", "(0) 0(12) (4)"},
		{"(pU(qUr))", "4(0) 124(0) 11224(0) 2224(0) 1114(0) (14) (24) (4)", "(1) (2) 12(2) 1(2) (12) 1(12) 104(4) 204(4) 121(4) 1(0)"},
		{"((pUq)Ur)", "4(0) 124(0) 2224(0) 112124(0) 2(4) 12(4)", "(1) (2) (12) 14(4) 114(0) (3) 12(2) 12(12) 04(0) 120(4)"},
		{"FFp", "1(0) 001(0) (1) (0001) (01)", "(0) (2) 22(4)"},
		{"FFFp", "1(0) 001(0) (1) (0001) (01)", "(0) (2) 22(4)"},
		{"(FpUq)", "2(0) (2) 012(0) 0012(0) (12) 21(0) 012(0)", "(1) (0) 1(0) (01) 1(01) 02(0)"},
		{"(FpUGq)", "(2) (3) 012(2) 01(2) 0101(3)", "(1) (12) 0(12) 02(2) (0) 2(1) 12(10)"},
		{"(TU(pUq))", "2(0) 002(0) (1112) 1(2) (02)", "(1) (0) 1(1) 0(01)"},
		{"((pUq)&F!q)", "2(0) 12(0) 1(20) 112(1)", "(2) (3) (1) 1(1) 2(2) 02(0)"},
		{"((pUq)&(qUr))", "24(0) 224(0) 6(0) 624(0) (6) 34(0) 52(0) 2(4)", "(1) (2) (3) (5) 5(1) 4(0) 1(24) 14(2) 514(2) 20(4) 2(2) 23(3)"},
	} {
		f := mustParseFormula(t, c.text)
		a, ok := checkTranslation(t, f)
		if !ok {
			t.Fatalf("TranslateFormula(%s) = %v, %v", c.text, a, ok)
		}
		checkLanguage(t, f, a, sampleLassos())
		for want, list := range map[bool]string{true: c.accepted, false: c.refused} {
			for _, text := range strings.Fields(list) {
				if got := mustAccept(t, a, lassoFrom(text)); got != want {
					t.Errorf("the automaton of %s and %s: Accepts = %v", c.text, text, got)
				}
			}
		}
	}
}

// The automaton of a formula and that of its negation share no word, and
// together they accept all words.
func TestAutomataOfNegations(t *testing.T) {
	words := lassosOf(append(shortWords(), mixedWords(40)...))
	pairs := 0
	for i, f := range append(sampleFormulas(), mixedFormulas(1000)...) {
		negation, _ := impl.NegateFormula(f)
		a, ok := impl.TranslateFormula(f)
		b, okNegation := impl.TranslateFormula(negation)
		if !ok || !okNegation {
			continue
		}
		pairs++
		for j := i % 7; j < len(words); j += 7 {
			if mustAccept(t, a, words[j]) == mustAccept(t, b, words[j]) {
				t.Fatalf("the automata of %s and of its negation say the same of %s", formulaText(f), lassoText(words[j]))
			}
		}
		if both, ok := impl.IntersectAutomata(a, b); ok {
			if l, found := impl.FindWord(both); found {
				t.Fatalf("%s and its negation are satisfied by %s", formulaText(f), lassoText(l))
			}
		}
	}
	if pairs < 300 {
		t.Errorf("only %d pairs", pairs)
	}
}

// A word is found in the automaton exactly of a formula that some word satisfies.
func TestFindWordOfFormulas(t *testing.T) {
	none := 0
	for _, f := range append(smallFormulas(), mixedFormulas(2000)...) {
		a, ok := impl.TranslateFormula(f)
		if !ok {
			continue
		}
		l, found := impl.FindWord(a)
		if found && !mustSatisfy(t, l, f) {
			t.Fatalf("FindWord of the automaton of %s = %s", formulaText(f), lassoText(l))
		}
		for _, w := range shortWords() {
			if other := (impl.Lasso{Stem: w.stem, Loop: w.loop}); !found && mustSatisfy(t, other, f) {
				t.Fatalf("FindWord finds no word that satisfies %s, but %s does", formulaText(f), lassoText(other))
			}
		}
		none += bit(!found)
	}
	if none < 100 {
		t.Errorf("only %d formulas are never satisfied", none)
	}
}
