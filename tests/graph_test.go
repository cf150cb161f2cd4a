package tests

import (
	"fmt"
	"slices"
	"strings"
	"testing"

	"loop.example/ltlcheck/impl"
)

// lineSystem returns a system that counts, in 49 to 64 states of which each one
// has the next one as its only successor and the last one is a deadlock.
func lineSystem(t *testing.T, states int) impl.System {
	t.Helper()
	first := 64 - states
	return mustParseSystem(t, fmt.Sprintf("system %d %d 0\n", first%4, first/4)+
		"process 1\nedge 0 0 (x<3) x:=(x+1) -\nedge 0 0 ((x=3)&(y<3)) x:=0 !1\n"+
		"process 1\nedge 0 0 1 y:=(y+1) ?1\nedge 0 0 ((x=3)&(y=3)) x:=0 !2\n"+
		"process 4\nedge 0 1 1 y:=0 ?2\nedge 1 2 1 y:=0 ?2\nedge 2 3 1 y:=0 ?2\n")
}

// gridSystem increments the variables in any order, with the given Guards.
func gridSystem(t *testing.T, x, y, z string) impl.System {
	t.Helper()
	return mustParseSystem(t, "system 0 0 0\nprocess 1\n"+
		"edge 0 0 "+x+" x:=(x+1) -\nedge 0 0 "+y+" y:=(y+1) -\nedge 0 0 "+z+" z:=(z+1) -\n")
}

// grid60 has all combinations of values but those with x = y = 3.
func grid60(t *testing.T) impl.System {
	t.Helper()
	return gridSystem(t, "((x<3)&!((x=2)&(y=3)))", "((y<3)&!((x=3)&(y=2)))", "(z<3)")
}

// grid61 has all combinations of values but those with x = y = 3 and z > 0.
func grid61(t *testing.T) impl.System {
	t.Helper()
	return gridSystem(t, "((x<3)&!(((x=2)&(y=3))&z))", "((y<3)&!(((x=3)&(y=2))&z))", "((z<3)&!((x=3)&(y=3)))")
}

// cycle60 is three processes without deadlocks: 4 locations, 3 locations, and 5
// combinations of a location and a value.
func cycle60(t *testing.T) impl.System {
	t.Helper()
	return mustParseSystem(t, "system 0 0 0\n"+
		"process 4\nedge 0 1 1 - -\nedge 1 2 1 - -\nedge 2 3 1 - -\nedge 3 0 1 - -\n"+
		"process 3\nedge 0 1 1 - -\nedge 1 2 1 - -\nedge 2 0 1 - -\n"+
		"process 2\nedge 0 0 (x<3) x:=(x+1) -\nedge 0 1 (x=3) - -\nedge 1 0 1 x:=0 -\n")
}

// graphSystems has systems of all sizes around the limit, and systems of all
// kinds.
func graphSystems(t *testing.T) []impl.System {
	t.Helper()
	list := append(stepSystems(t), grid60(t), grid61(t), cycle60(t), gridSystem(t, "1", "1", "1"))
	for states := 57; states <= 64; states++ {
		list = append(list, lineSystem(t, states))
	}
	n := &numbers{last: 4}
	for range 300 {
		list = append(list, livelySystem(n))
	}
	return list
}

// livelySystem returns a system with more reachable states than most of those
// of mixedSystem, as most of its edges can be taken, and alone.
func livelySystem(n *numbers) impl.System {
	guards := []string{"1", "1", "1", "1", "(x<3)", "(y<2)", "!(x=y)", "(y<x)"}
	assignments := []string{"-", "-", "-", "x:=(x+1)", "y:=(y+2)", "x:=(x-y)", "z:=!z", "y:=0", "x:=3"}
	text := fmt.Sprintf("system %d %d 0\n", n.below(4), n.below(2))
	for range 1 + n.below(3) {
		locations := 1 + n.below(4)
		text += fmt.Sprintf("process %d\n", locations)
		for edge := range 1 + n.below(6) {
			text += fmt.Sprintf("edge %d %d %s %s %s\n", edge%locations, n.below(locations),
				guards[n.below(len(guards))], assignments[n.below(len(assignments))], []string{"-", "-", "-", "-", "!1", "?1"}[n.below(6)])
		}
	}
	s, ok := impl.ParseSystem(text)
	if !ok {
		panic("not the text of a system: " + text)
	}
	return s
}

// existingSteps returns, in ascending order, the steps whose edges exist.
func existingSteps(s impl.System) []impl.Step {
	var list []impl.Step
	for _, step := range nearbySteps(s) {
		_, edge := edgeAt(s, step.Process, step.Edge)
		_, partner := edgeAt(s, step.Partner, step.PartnerEdge)
		if edge && (partner || step.Partner == -1 && step.PartnerEdge == -1) {
			list = append(list, step)
		}
	}
	return list
}

// statesAfter is the test's own list of the states after the enabled steps.
func statesAfter(s impl.System, steps []impl.Step, st impl.State) []impl.State {
	var list []impl.State
	for _, step := range steps {
		if canBeTaken(s, st, step) {
			list = append(list, stateAfter(s, st, step))
		}
	}
	return list
}

func indexOfState(list []impl.State, st impl.State) int {
	return slices.IndexFunc(list, func(other impl.State) bool { return equalStates(st, other) })
}

// graphOf is the chapter's text about BuildGraph, written down once more,
// without the limit.
func graphOf(s impl.System) impl.Graph {
	steps := existingSteps(s)
	g := impl.Graph{States: []impl.State{{Locs: make([]int, len(s.Processes)), Vals: s.Init}}}
	for i := 0; i < len(g.States); i++ {
		var next []int
		for _, st := range statesAfter(s, steps, g.States[i]) {
			j := indexOfState(g.States, st)
			if j < 0 {
				j = len(g.States)
				g.States = append(g.States, st)
			}
			if !slices.Contains(next, j) {
				next = append(next, j)
			}
		}
		if len(next) == 0 {
			next = []int{i}
		}
		g.Next = append(g.Next, next)
	}
	return g
}

// equalGraphs is the test's own comparison.
func equalGraphs(a, b impl.Graph) bool {
	return slices.EqualFunc(a.States, b.States, equalStates) &&
		slices.EqualFunc(a.Next, b.Next, func(l, m []int) bool { return slices.Equal(l, m) })
}

func isZeroGraph(g impl.Graph) bool { return len(g.States) == 0 && len(g.Next) == 0 }

func statesText(states []impl.State) string {
	var list []string
	for _, st := range states {
		list = append(list, stateTextOf(st))
	}
	return strings.Join(list, " ")
}

// unreachable is a distance that no path has.
const unreachable = 1 << 30

// distances returns the lengths of the shortest paths from each state to the
// state to, by shortening until nothing becomes shorter.
func distances(g impl.Graph, to int) []int {
	list := make([]int, len(g.States))
	for i := range list {
		list[i] = unreachable
	}
	list[to] = 0
	for changed := true; changed; {
		changed = false
		for i, next := range g.Next {
			for _, j := range next {
				if list[j]+1 < list[i] {
					list[i], changed = list[j]+1, true
				}
			}
		}
	}
	return list
}

// pathOf goes from state to state by the first successor that comes nearer. As a
// breadth-first search finds the states of a distance in the order of the
// states before them, its path is the same one.
func pathOf(g impl.Graph, from, to int) []int {
	far := distances(g, to)
	if far[from] == unreachable {
		return nil
	}
	path := []int{from}
	for i := from; i != to; path = append(path, i) {
		nearer := slices.IndexFunc(g.Next[i], func(j int) bool { return far[j] < far[i] })
		i = g.Next[i][nearer]
	}
	return path
}

func TestGraphOfTheExample(t *testing.T) {
	s := mustParseSystem(t, exampleText)
	g, ok := impl.BuildGraph(s)
	if got := statesText(g.States); !ok || got != "00/000 10/110 00/110 10/220 00/220" {
		t.Errorf("BuildGraph has the states %s, %v", got, ok)
	}
	if got := fmt.Sprint(g.Next); got != "[[1] [2] [3] [4] [4]]" {
		t.Errorf("BuildGraph has the successors %s", got)
	}
	if !impl.GraphValid(g) {
		t.Error("GraphValid = false")
	}
	if got := fmt.Sprint(impl.ShortestPath(g, 0, 3)); got != "[0 1 2 3]" {
		t.Errorf("ShortestPath = %s", got)
	}
	if !impl.PathValid(g, []int{0, 1, 2, 3, 4, 4}) || impl.PathValid(g, []int{0, 1, 1}) {
		t.Error("PathValid is wrong")
	}
	if got := fmt.Sprint(impl.Components(g)); got != "[0 1 2 3 4]" {
		t.Errorf("Components = %s", got)
	}
	if v, path := impl.CheckDeadlock(s); v != impl.VerdictFails || statesText(path) != statesText(g.States) {
		t.Errorf("CheckDeadlock = %d, %v", v, path)
	}
}

// Each case is a system, the states of its graph and their successors.
func TestGraphOfEachCase(t *testing.T) {
	for _, c := range []struct {
		name, system, states, next string
	}{
		{"a process without edges", "system 1 2 3\nprocess 1\n", "0/123", "[[0]]"},
		{"three processes without edges", "system 0 0 0\nprocess 4\nprocess 1\nprocess 2\n", "000/000", "[[0]]"},
		{"a step to the same state", "system 0 0 0\nprocess 1\nedge 0 0 1 - -\n", "0/000", "[[0]]"},
		{"a deadlock", "system 0 0 0\nprocess 2\nedge 0 1 1 - -\n", "0/000 1/000", "[[1] [1]]"},
		{"a deadlock with an edge that is not ready", "system 0 0 0\nprocess 2\nedge 0 1 1 - -\nedge 1 0 x - -\n", "0/000 1/000", "[[1] [1]]"},
		{"a deadlock with an edge that sends", "system 0 0 0\nprocess 2\nedge 0 1 1 - -\nedge 1 0 1 - !1\n", "0/000 1/000", "[[1] [1]]"},
		{"the same edge twice", "system 0 0 0\nprocess 2\nedge 0 1 1 - -\nedge 0 1 1 - -\n", "0/000 1/000", "[[1] [1]]"},
		{"two edges with the same effect", "system 1 0 0\nprocess 1\nedge 0 0 1 x:=2 -\nedge 0 0 1 x:=(1+1) -\n", "0/100 0/200", "[[1] [1]]"},
		{"three steps, the last to the same as the first", "system 0 0 0\nprocess 3\nedge 0 2 1 - -\nedge 0 1 1 - -\nedge 0 2 1 - -\n",
			"0/000 2/000 1/000", "[[1 2] [1] [2]]"},
		{"a diamond", "system 0 0 0\nprocess 2\nedge 0 1 1 - -\nprocess 2\nedge 0 1 1 - -\n",
			"00/000 10/000 01/000 11/000", "[[1 2] [3] [3] [3]]"},
		{"a diamond by assignments", "system 0 0 0\nprocess 1\nedge 0 0 !x x:=1 -\nedge 0 0 !y y:=1 -\n",
			"0/000 0/100 0/010 0/110", "[[1 2] [3] [3] [3]]"},
		{"a way back", "system 0 0 0\nprocess 3\nedge 0 1 1 - -\nedge 1 2 1 - -\nedge 2 0 1 - -\nedge 2 2 1 - -\n",
			"0/000 1/000 2/000", "[[1] [2] [0 2]]"},
		{"a step to the same state between others", "system 0 0 0\nprocess 3\nedge 0 1 1 - -\nedge 0 0 1 - -\nedge 0 2 1 - -\n",
			"0/000 1/000 2/000", "[[1 0 2] [1] [2]]"},
		{"later processes after earlier ones", "system 0 0 0\nprocess 1\nedge 0 0 1 z:=1 -\nprocess 1\nedge 0 0 1 z:=3 -\nedge 0 0 1 z:=2 -\n",
			"00/000 00/001 00/003 00/002", "[[1 2 3] [1 2 3] [1 2 3] [1 2 3]]"},
		{"the nearest first", "system 0 0 0\nprocess 4\nedge 0 3 1 - -\nedge 0 1 1 - -\nedge 1 3 1 - -\nedge 3 2 1 - -\nedge 2 0 1 - -\n",
			"0/000 3/000 1/000 2/000", "[[1 2] [3] [1] [0]]"},
		{"a location that no edge leads to", "system 0 0 0\nprocess 2\nedge 1 1 1 x:=1 -\nedge 0 0 1 x:=2 -\n", "0/000 0/200", "[[1] [1]]"},
		{"a Guard that is never true", "system 0 0 0\nprocess 2\nedge 0 1 y - -\nedge 0 0 1 x:=(x+2) -\n", "0/000 0/200", "[[1] [0]]"},
		{"the same numbers at other places", "system 1 0 0\nprocess 2\nedge 0 1 1 x:=0 -\nprocess 2\nedge 0 1 1 y:=x -\n",
			"00/100 10/000 01/110 11/000 11/010", "[[1 2] [3] [4] [3] [4]]"},
	} {
		s := mustParseSystem(t, c.system)
		g, ok := impl.BuildGraph(s)
		if got := statesText(g.States); !ok || got != c.states {
			t.Errorf("%s: BuildGraph has the states %s, %v", c.name, got, ok)
		}
		if got := fmt.Sprint(g.Next); got != c.next {
			t.Errorf("%s: BuildGraph has the successors %s", c.name, got)
		}
		if !impl.GraphValid(g) {
			t.Errorf("%s: GraphValid = false", c.name)
		}
	}
	g, ok := impl.BuildGraph(mustParseSystem(t, stepTexts[8]))
	if !ok || fmt.Sprint(g.Next[0]) != "[1 2 3 4 0 5 6 7 8]" ||
		statesText(g.States[:9]) != "000/000 000/130 000/230 000/031 000/033 000/120 000/220 000/021 000/023" {
		t.Errorf("several partners: BuildGraph = %v, %v", g, ok)
	}
}

func TestGraphOfAllSystems(t *testing.T) {
	small, large, several := 0, 0, 0
	for _, s := range graphSystems(t) {
		want := graphOf(s)
		g, ok := impl.BuildGraph(s)
		if len(want.States) > impl.MaxStates {
			large++
			if ok || !isZeroGraph(g) {
				t.Fatalf("%q: BuildGraph = %v, %v with %d states", systemTextOf(s), g, ok, len(want.States))
			}
			continue
		}
		small++
		several += bit(len(want.States) > 4)
		if !ok || !equalGraphs(g, want) || !impl.GraphSame(g, want) || !impl.GraphValid(g) {
			t.Fatalf("%q: BuildGraph = %v, %v, want %v", systemTextOf(s), g, ok, want)
		}
	}
	if small < 300 || large < 15 || several < 150 {
		t.Errorf("only %d graphs, %d of them with more than 4 states, and %d that are too large", small, several, large)
	}
}

// Promise 4: the graph contains exactly the reachable states.
func TestGraphHasExactlyTheReachableStates(t *testing.T) {
	for _, s := range graphSystems(t) {
		g, ok := impl.BuildGraph(s)
		if !ok {
			continue
		}
		if initial := stateOf(make([]int, len(s.Processes)), s.Init...); !equalStates(g.States[0], initial) {
			t.Fatalf("%q: the first state is %s", systemTextOf(s), stateTextOf(g.States[0]))
		}
		for i, st := range g.States {
			if indexOfState(g.States, st) != i {
				t.Fatalf("%q: %s is there twice", systemTextOf(s), stateTextOf(st))
			}
			// A state is reachable if one in front of it leads to it.
			if i > 0 && !slices.ContainsFunc(g.Next[:i], func(next []int) bool { return slices.Contains(next, i) }) {
				t.Fatalf("%q: %s is not reached", systemTextOf(s), stateTextOf(st))
			}
		}
		checkSuccessors(t, s, g)
	}
}

func checkSuccessors(t *testing.T, s impl.System, g impl.Graph) {
	t.Helper()
	steps := existingSteps(s)
	for i, st := range g.States {
		after := statesAfter(s, steps, st)
		if len(after) == 0 {
			after = []impl.State{st}
		}
		for _, next := range after {
			if j := indexOfState(g.States, next); j < 0 || !slices.Contains(g.Next[i], j) {
				t.Fatalf("%q: %s is not a successor of %s", systemTextOf(s), stateTextOf(next), stateTextOf(st))
			}
		}
		for k, j := range g.Next[i] {
			if indexOfState(after, g.States[j]) < 0 || slices.Index(g.Next[i], j) != k {
				t.Fatalf("%q: %v are the successors of %s", systemTextOf(s), g.Next[i], stateTextOf(st))
			}
		}
	}
}

func TestGraphAtTheLimit(t *testing.T) {
	for states := 49; states <= 64; states++ {
		s := lineSystem(t, states)
		if n := len(graphOf(s).States); n != states {
			t.Fatalf("the line of %d states has %d states", states, n)
		}
		checkSize(t, fmt.Sprint("line of ", states), s, states)
	}
	checkSize(t, "grid of 60", grid60(t), 60)
	checkSize(t, "cycle of 60", cycle60(t), 60)
	checkSize(t, "grid of 61", grid61(t), 61)
	checkSize(t, "grid of 64", gridSystem(t, "1", "1", "1"), 64)
	p := process(4, plain(0, 1), plain(1, 2), plain(2, 3), assigning(3, 0, 0, binary(impl.ExprAdd, variable(0), constant(1))))
	q := process(4, plain(0, 1), plain(1, 2), plain(2, 3), assigning(3, 0, 1, binary(impl.ExprAdd, variable(1), constant(1))))
	r := process(4, plain(0, 1), plain(1, 2), plain(2, 3), assigning(3, 0, 2, binary(impl.ExprAdd, variable(2), constant(1))))
	checkSize(t, "all states", systemOf(p, q, r), 4096)
}

func checkSize(t *testing.T, name string, s impl.System, states int) {
	t.Helper()
	g, ok := impl.BuildGraph(s)
	if ok != (states <= 60) || ok && (len(g.States) != states || len(g.Next) != states || !impl.GraphValid(g)) || !ok && !isZeroGraph(g) {
		t.Errorf("%s: BuildGraph = %v, %v", name, g, ok)
	}
	invariant, path := impl.CheckInvariant(s, constant(1))
	if want := []int{impl.VerdictLarge, impl.VerdictHolds}[bit(ok)]; invariant != want || len(path) != 0 {
		t.Errorf("%s: CheckInvariant = %d, %v", name, invariant, path)
	}
	// A bad state does not count if there are too many states.
	invariant, path = impl.CheckInvariant(s, constant(0))
	if want := []int{impl.VerdictLarge, impl.VerdictFails}[bit(ok)]; invariant != want || len(path) != bit(ok) {
		t.Errorf("%s: CheckInvariant of 0 = %d, %v", name, invariant, path)
	}
	if deadlock, path := impl.CheckDeadlock(s); !ok && (deadlock != impl.VerdictLarge || len(path) != 0) {
		t.Errorf("%s: CheckDeadlock = %d, %v", name, deadlock, path)
	}
}

func TestChecksOfEachCase(t *testing.T) {
	const (
		diamond = "system 0 0 0\nprocess 2\nedge 0 1 1 x:=1 -\nprocess 2\nedge 0 1 1 y:=1 -\n"
		loop    = "system 0 0 0\nprocess 1\nedge 0 0 1 - -\n"
	)
	for _, c := range []struct {
		name, system, expr string
		verdict            int
		path               string
	}{
		{"the example", exampleText, "(x<2)", impl.VerdictFails, "00/000 10/110 00/110 10/220"},
		{"the example, always", exampleText, "(x=y)", impl.VerdictHolds, ""},
		{"the example, initially not", exampleText, "x", impl.VerdictFails, "00/000"},
		{"the value 2 is true", exampleText, "2", impl.VerdictHolds, ""},
		{"the value 3 is true, and 0 is not", "system 3 0 0\nprocess 1\nedge 0 0 1 x:=(x-1) -\n", "x", impl.VerdictFails, "0/300 0/200 0/100 0/000"},
		{"only unreachable states are bad", exampleText, "(x<3)", impl.VerdictHolds, ""},
		{"the bad state is reached in two ways", diamond, "!(x&y)", impl.VerdictFails, "00/000 10/100 11/110"},
		{"two bad states at the same distance", diamond, "(x=y)", impl.VerdictFails, "00/000 10/100"},
		{"the second successor is bad", diamond, "!y", impl.VerdictFails, "00/000 01/010"},
		{"a near bad state after a far one",
			"system 0 0 0\nprocess 4\nedge 0 1 1 - -\nedge 1 2 1 - -\nedge 2 3 1 x:=1 -\nedge 0 3 1 x:=2 -\n", "!x", impl.VerdictFails, "0/000 3/200"},
		{"deadlock of the example", exampleText, "", impl.VerdictFails, "00/000 10/110 00/110 10/220 00/220"},
		{"no deadlock but a state that stays", loop, "", impl.VerdictHolds, ""},
		{"a deadlock that stays as well", "system 0 0 0\nprocess 2\nedge 0 0 1 - -\nedge 0 1 1 - -\n", "", impl.VerdictFails, "0/000 1/000"},
		{"the initial state is a deadlock", "system 1 2 3\nprocess 1\n", "", impl.VerdictFails, "0/123"},
		{"one process has no step", loop + "process 1\n", "", impl.VerdictHolds, ""},
		{"a deadlock that is not reached", "system 0 0 0\nprocess 2\nedge 0 0 1 - -\n", "", impl.VerdictHolds, ""},
		{"both send", "system 0 0 0\nprocess 1\nedge 0 0 1 - !1\nprocess 1\nedge 0 0 1 - !1\n", "", impl.VerdictFails, "00/000"},
		{"two deadlocks", "system 0 0 0\nprocess 3\nedge 0 2 1 - -\nedge 0 1 1 - -\n", "", impl.VerdictFails, "0/000 2/000"},
	} {
		s := mustParseSystem(t, c.system)
		verdict, path := impl.CheckDeadlock(s)
		if c.expr != "" {
			verdict, path = impl.CheckInvariant(s, mustParse(t, c.expr))
		}
		if verdict != c.verdict || statesText(path) != c.path {
			t.Errorf("%s: the verdict is %d with %s", c.name, verdict, statesText(path))
		}
	}
	// The longest counterexample that there is.
	s := lineSystem(t, 60)
	want := statesText(graphOf(s).States)
	if v, path := impl.CheckDeadlock(s); v != impl.VerdictFails || len(path) != 60 || statesText(path) != want {
		t.Errorf("CheckDeadlock of 60 states = %d, %v", v, path)
	}
}

// checkVerdict compares a verdict and its counterexample with the definition.
func checkVerdict(t *testing.T, name string, g impl.Graph, bad func(impl.State) bool, verdict int, path []impl.State) {
	t.Helper()
	if len(g.States) > impl.MaxStates {
		if verdict != impl.VerdictLarge || len(path) != 0 {
			t.Fatalf("%s: the verdict is %d with %v for %d states", name, verdict, path, len(g.States))
		}
		return
	}
	first := slices.IndexFunc(g.States, bad)
	if first < 0 {
		if verdict != impl.VerdictHolds || len(path) != 0 {
			t.Fatalf("%s: the verdict is %d with %v", name, verdict, path)
		}
		return
	}
	var want []impl.State
	for _, i := range pathOf(g, 0, first) {
		want = append(want, g.States[i])
	}
	if verdict != impl.VerdictFails || !slices.EqualFunc(path, want, equalStates) {
		t.Fatalf("%s: the verdict is %d with %s, want %s", name, verdict, statesText(path), statesText(want))
	}
	checkShortest(t, name, g, bad, path)
}

// Promise 4: counterexamples are shortest paths.
func checkShortest(t *testing.T, name string, g impl.Graph, bad func(impl.State) bool, path []impl.State) {
	t.Helper()
	if !equalStates(path[0], g.States[0]) || !bad(path[len(path)-1]) {
		t.Fatalf("%s: %s does not lead from the initial state to a bad one", name, statesText(path))
	}
	for i, st := range path[1:] {
		before, after := indexOfState(g.States, path[i]), indexOfState(g.States, st)
		if before < 0 || after < 0 || !slices.Contains(g.Next[before], after) {
			t.Fatalf("%s: %s has no step %d", name, statesText(path), i)
		}
	}
	for i, st := range g.States {
		if bad(st) && distances(g, i)[0] < len(path)-1 {
			t.Fatalf("%s: %s is reached earlier than by %s", name, stateTextOf(st), statesText(path))
		}
	}
}

func TestCheckInvariantOfAllSystems(t *testing.T) {
	exprs := sampleExprs()
	for i, s := range graphSystems(t) {
		g := graphOf(s)
		for j := i % 11; j < len(exprs); j += 11 {
			e := exprs[j]
			verdict, path := impl.CheckInvariant(s, e)
			bad := func(st impl.State) bool { return valueOf(e, st.Vals) == 0 }
			checkVerdict(t, fmt.Sprintf("%q: CheckInvariant of %s", systemTextOf(s), textOf(e)), g, bad, verdict, path)
		}
	}
}

func TestCheckDeadlockOfAllSystems(t *testing.T) {
	counts := map[int]int{}
	for _, s := range graphSystems(t) {
		steps := existingSteps(s)
		verdict, path := impl.CheckDeadlock(s)
		counts[verdict]++
		bad := func(st impl.State) bool { return len(statesAfter(s, steps, st)) == 0 }
		checkVerdict(t, fmt.Sprintf("%q: CheckDeadlock", systemTextOf(s)), graphOf(s), bad, verdict, path)
	}
	if counts[impl.VerdictHolds] < 100 || counts[impl.VerdictFails] < 100 || counts[impl.VerdictLarge] < 15 {
		t.Errorf("the verdicts are one-sided: %v", counts)
	}
}

func TestGraphsOfInvalidSystems(t *testing.T) {
	for name, s := range invalidSystems() {
		if g, ok := impl.BuildGraph(s); ok || !isZeroGraph(g) {
			t.Errorf("%s: BuildGraph = %v, %v", name, g, ok)
		}
		for _, e := range []impl.Expr{constant(0), constant(1), {}} {
			if v, path := impl.CheckInvariant(s, e); v != impl.VerdictInvalid || len(path) != 0 {
				t.Errorf("%s: CheckInvariant = %d, %v", name, v, path)
			}
		}
		if v, path := impl.CheckDeadlock(s); v != impl.VerdictInvalid || len(path) != 0 {
			t.Errorf("%s: CheckDeadlock = %d, %v", name, v, path)
		}
	}
}

func TestCheckInvariantOfInvalidExpressions(t *testing.T) {
	for name, e := range invalidExprs() {
		for _, s := range []impl.System{exampleSystem(), systemOf(process(1)), lineSystem(t, 61), gridSystem(t, "1", "1", "1")} {
			if v, path := impl.CheckInvariant(s, e); v != impl.VerdictInvalid || len(path) != 0 {
				t.Errorf("%s: CheckInvariant = %d, %v", name, v, path)
			}
		}
	}
}

// A system that is not valid is so before it is too large.
func TestInvalidBeforeLarge(t *testing.T) {
	s := lineSystem(t, 64)
	if v, _ := impl.CheckDeadlock(s); v != impl.VerdictLarge {
		t.Fatalf("CheckDeadlock = %d", v)
	}
	last := &s.Processes[2]
	last.Edges = append(last.Edges, withGuard(plain(3, 3), constant(4)))
	if v, path := impl.CheckDeadlock(s); v != impl.VerdictInvalid || len(path) != 0 {
		t.Errorf("CheckDeadlock = %d, %v", v, path)
	}
	if v, path := impl.CheckInvariant(s, constant(0)); v != impl.VerdictInvalid || len(path) != 0 {
		t.Errorf("CheckInvariant = %d, %v", v, path)
	}
}
