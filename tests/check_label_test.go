package tests

import (
	"math"
	"slices"
	"strconv"
	"testing"

	"loop.example/ltlcheck/impl"
)

// labelsOf reads labels from their texts.
func labelsOf(t *testing.T, texts ...string) []impl.Expr {
	t.Helper()
	var labels []impl.Expr
	for _, text := range texts {
		labels = append(labels, mustParse(t, text))
	}
	return labels
}

// plainLabels are the variables, so that the letter of a state of which no value
// is more than 1 is that of its values.
func plainLabels() []impl.Expr { return []impl.Expr{variable(0), variable(1), variable(2)} }

func labelsText(labels []impl.Expr) string {
	text := ""
	for _, label := range labels {
		text += " " + textOf(label)
	}
	return text
}

// letterOf is the test's own letter of a state.
func letterOf(st impl.State, labels []impl.Expr) int {
	return bit(valueOf(labels[0], st.Vals) != 0) + 2*bit(valueOf(labels[1], st.Vals) != 0) + 4*bit(valueOf(labels[2], st.Vals) != 0)
}

func lettersOf(g impl.Graph, labels []impl.Expr) []int {
	var list []int
	for _, st := range g.States {
		list = append(list, letterOf(st, labels))
	}
	return list
}

// sampleLabels returns labels in which each of the sample expressions is that of
// some atom.
func sampleLabels() [][]impl.Expr {
	list := [][]impl.Expr{plainLabels()}
	exprs := sampleExprs()
	for i := range exprs {
		list = append(list, []impl.Expr{exprs[i], exprs[(i*5+7)%len(exprs)], exprs[(i*11+3)%len(exprs)]})
	}
	return list
}

// invalidLabels has labels for each way to miss the definition.
func invalidLabels() map[string][]impl.Expr {
	x := variable(0)
	list := map[string][]impl.Expr{
		"none": nil, "an empty list": {}, "one label": {x}, "two labels": {x, x}, "four labels": {x, x, x, x}, "six labels": {x, x, x, x, x, x},
		"a million labels":              slices.Repeat([]impl.Expr{x}, 1000000),
		"three zero values":             make([]impl.Expr, 3),
		"a fourth label of no kind":     {x, x, x, {}},
		"a label of kind 10":            {x, {Kind: 10}, x},
		"a part with two of its labels": plainLabels()[:2],
	}
	for name, e := range invalidExprs() {
		list["first: "+name] = []impl.Expr{e, x, x}
		list["second: "+name] = []impl.Expr{x, e, x}
		list["third: "+name] = []impl.Expr{x, x, e}
	}
	return list
}

// invalidVals has values for each way to miss the definition.
func invalidVals() map[string][]int {
	list := map[string][]int{
		"none": nil, "an empty list": {}, "one value": {1}, "two values": {1, 2}, "four values": {0, 0, 0, 0}, "six values": {1, 1, 1, 1, 1, 1}, "a million values": make([]int, 1000000),
		"a fourth value of 4": {0, 0, 0, 4},
	}
	for name, value := range map[string]int{"-1": -1, "4": 4, "5": 5, "1<<40": 1 << 40, "the least int": math.MinInt, "the largest int": math.MaxInt} {
		list["first: "+name] = []int{value, 0, 3}
		list["second: "+name] = []int{0, value, 3}
		list["third: "+name] = []int{0, 3, value}
		list["each: "+name] = []int{value, value, value}
	}
	return list
}

func TestLabelsValid(t *testing.T) {
	for _, labels := range sampleLabels() {
		if !impl.LabelsValid(labels) {
			t.Errorf("LabelsValid of%s = false", labelsText(labels))
		}
	}
	for name, labels := range invalidLabels() {
		if impl.LabelsValid(labels) {
			t.Errorf("%s: LabelsValid = true", name)
		}
	}
}

// A label may have MaxExprNodes nodes and a depth of MaxExprDepth, but no more.
func TestLabelsAtTheLimits(t *testing.T) {
	x := variable(0)
	for _, c := range []struct {
		name  string
		label impl.Expr
		want  bool
	}{
		{"15 nodes", fullSum(4, x), true}, {"17 nodes", binary(impl.ExprAdd, fullSum(4, x), x), false}, {"16 nodes", not(fullSum(4, x)), false},
		{"depth 6", nots(5, x), true}, {"depth 7", nots(6, x), false}, {"value 3", constant(3), true}, {"value 4", constant(4), false}, {"variable 2", variable(2), true}, {"variable 3", variable(3), false},
	} {
		for place := range 3 {
			labels := plainLabels()
			labels[place] = c.label
			if got := impl.LabelsValid(labels); got != c.want {
				t.Errorf("%s as label %d: LabelsValid = %v", c.name, place, got)
			}
		}
	}
}

func TestLabelState(t *testing.T) {
	for _, c := range []struct {
		labels []string
		vals   []int
		want   int
	}{
		// Each atom has its own bit.
		{[]string{"x", "y", "z"}, []int{0, 0, 0}, 0}, {[]string{"x", "y", "z"}, []int{1, 0, 0}, 1}, {[]string{"x", "y", "z"}, []int{0, 1, 0}, 2}, {[]string{"x", "y", "z"}, []int{0, 0, 1}, 4},
		{[]string{"x", "y", "z"}, []int{1, 1, 0}, 3}, {[]string{"x", "y", "z"}, []int{1, 0, 1}, 5}, {[]string{"x", "y", "z"}, []int{0, 1, 1}, 6}, {[]string{"x", "y", "z"}, []int{1, 1, 1}, 7},
		{[]string{"1", "0", "0"}, []int{0, 0, 0}, 1}, {[]string{"0", "1", "0"}, []int{0, 0, 0}, 2}, {[]string{"0", "0", "1"}, []int{0, 0, 0}, 4}, {[]string{"0", "0", "0"}, []int{3, 3, 3}, 0},
		// Every value other than 0 is true.
		{[]string{"x", "y", "z"}, []int{2, 3, 0}, 3}, {[]string{"x", "y", "z"}, []int{0, 2, 3}, 6}, {[]string{"x", "y", "z"}, []int{3, 3, 3}, 7}, {[]string{"2", "0", "3"}, []int{0, 0, 0}, 5},
		{[]string{"(x+y)", "(x-y)", "(x+x)"}, []int{2, 2, 0}, 0}, {[]string{"(x+y)", "(x-y)", "(x+x)"}, []int{1, 2, 0}, 7}, {[]string{"(x+y)", "(x-y)", "(x+x)"}, []int{1, 3, 0}, 6},
		// The labels of the chapter's example and others.
		{[]string{"(x<2)", "(x=1)", "(x=y)"}, []int{0, 0, 0}, 5}, {[]string{"(x<2)", "(x=1)", "(x=y)"}, []int{1, 1, 0}, 7}, {[]string{"(x<2)", "(x=1)", "(x=y)"}, []int{2, 2, 0}, 4}, {[]string{"(x<2)", "(x=1)", "(x=y)"}, []int{1, 0, 0}, 3},
		{[]string{"!x", "!!x", "(x|y)"}, []int{2, 0, 0}, 6}, {[]string{"(x&y)", "(x|y)", "!(x&y)"}, []int{2, 0, 3}, 6}, {[]string{"z", "z", "z"}, []int{0, 0, 2}, 7}, {[]string{"z", "y", "x"}, []int{0, 0, 2}, 1},
	} {
		st := stateOf([]int{0}, c.vals...)
		if got, ok := impl.LabelState(st, labelsOf(t, c.labels...)); !ok || got != c.want {
			t.Errorf("LabelState of %v with %v = %d, %v, want %d", c.vals, c.labels, got, ok, c.want)
		}
	}
}

func TestLabelStateOfAllValues(t *testing.T) {
	for i, labels := range sampleLabels() {
		for _, vals := range allVals() {
			st := stateOf([]int{i % 4}, vals...)
			if got, ok := impl.LabelState(st, labels); !ok || got != letterOf(st, labels) {
				t.Fatalf("LabelState of %v with%s = %d, %v", vals, labelsText(labels), got, ok)
			}
		}
	}
}

// The locations would not be valid in any system.
func TestLabelStateIgnoresLocations(t *testing.T) {
	for _, locs := range [][]int{nil, {}, {-1}, {4}, {0, 0, 0, 0}, {1 << 40, math.MinInt, math.MaxInt}, make([]int, 100000)} {
		for _, vals := range [][]int{{0, 0, 0}, {1, 0, 3}, {3, 3, 3}} {
			st := stateOf(locs, vals...)
			if got, ok := impl.LabelState(st, plainLabels()); !ok || got != letterOf(st, plainLabels()) {
				t.Errorf("LabelState with the locations %.60v and the values %v = %d, %v", locs, vals, got, ok)
			}
		}
	}
}

func TestLabelStateOfInvalidArguments(t *testing.T) {
	check := func(what string, st impl.State, labels []impl.Expr) {
		t.Helper()
		if letter, ok := impl.LabelState(st, labels); ok || letter != 0 {
			t.Errorf("%s: LabelState = %d, %v", what, letter, ok)
		}
	}
	ones := []impl.Expr{constant(1), constant(1), constant(1)}
	for name, labels := range invalidLabels() {
		check("labels: "+name, stateOf([]int{0}, 1, 1, 1), labels)
	}
	for name, vals := range invalidVals() {
		check("Vals: "+name, stateOf([]int{0}, vals...), plainLabels())
		check("Vals that are not read: "+name, stateOf(nil, vals...), ones)
		check("both, Vals: "+name, stateOf([]int{0}, vals...), ones[:2])
	}
	check("zero values", impl.State{}, nil)
}

func TestLabelGraph(t *testing.T) {
	example := labelsOf(t, "(x<2)", "(x=1)", "(x=y)")
	if letters, ok := impl.LabelGraph(exampleGraph(), example); !ok || !slices.Equal(letters, []int{5, 7, 7, 4, 4}) {
		t.Errorf("LabelGraph of the example = %v, %v", letters, ok)
	}
	labels := append(sampleLabels(), example)
	different := map[string]bool{}
	for i, g := range sampleGraphs(t) {
		for j := i % 50; j < len(labels); j += 50 {
			want := lettersOf(g, labels[j])
			letters, ok := impl.LabelGraph(g, labels[j])
			if !ok || !slices.Equal(letters, want) {
				t.Fatalf("LabelGraph of %v with%s = %v, %v, want %v", g, labelsText(labels[j]), letters, ok, want)
			}
			different[lettersText(letters)] = true
		}
	}
	if len(different) < 500 {
		t.Errorf("only %d different lists of letters", len(different))
	}
}

func lettersText(letters []int) string {
	text := ""
	for _, letter := range letters {
		text += strconv.Itoa(letter)
	}
	return text
}

func TestLabelGraphOfInvalidArguments(t *testing.T) {
	check := func(what string, g impl.Graph, labels []impl.Expr) {
		t.Helper()
		if letters, ok := impl.LabelGraph(g, labels); ok || len(letters) != 0 {
			t.Errorf("%s: LabelGraph = %v, %v", what, letters, ok)
		}
	}
	for name, g := range invalidGraphs() {
		check("g: "+name, g, plainLabels())
		check("g and labels: "+name, g, nil)
	}
	for name, labels := range invalidLabels() {
		check("labels: "+name, exampleGraph(), labels)
		check("labels of one state: "+name, ring(1), labels)
	}
	for name, vals := range invalidVals() {
		for place := range 3 {
			g := ring(3)
			g.States[place].Vals = vals
			check("Vals: "+name, g, plainLabels())
		}
	}
}
