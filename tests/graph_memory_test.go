package tests

import (
	"slices"
	"testing"

	"loop.example/ltlcheck/impl"
)

// roomyInts returns a copy of list that is a part of a longer one.
func roomyInts(list []int) []int { return append(slices.Clone(list), 77, 77)[:len(list)] }

// roomyGraph returns a copy of g in which every list is a part of a longer one.
func roomyGraph(g impl.Graph) impl.Graph {
	states := make([]impl.State, len(g.States)+2)
	for i := range states {
		states[i] = stateOf([]int{77})
	}
	for i, st := range g.States {
		states[i] = roomyState(st)
	}
	next := make([][]int, len(g.Next)+2)
	for i := range next {
		next[i] = []int{77}
	}
	for i, list := range g.Next {
		next[i] = roomyInts(list)
	}
	return impl.Graph{States: states[:len(g.States)], Next: next[:len(g.Next)]}
}

func untouchedInts(list, before []int) bool {
	beyond := list[len(list) : len(list)+2]
	return slices.Equal(list, before) && beyond[0] == 77 && beyond[1] == 77
}

// untouchedGraph reports whether g is still the roomy copy of before.
func untouchedGraph(g, before impl.Graph) bool {
	if !equalGraphs(g, before) {
		return false
	}
	for i, st := range g.States {
		if !untouchedState(st, before.States[i]) {
			return false
		}
	}
	for i, list := range g.Next {
		if !untouchedInts(list, before.Next[i]) {
			return false
		}
	}
	for _, st := range g.States[len(g.States):cap(g.States)] {
		if !equalStates(st, stateOf([]int{77})) {
			return false
		}
	}
	for _, list := range g.Next[len(g.Next):cap(g.Next)] {
		if !slices.Equal(list, []int{77}) {
			return false
		}
	}
	return true
}

func copyStates(list []impl.State) []impl.State {
	var result []impl.State
	for _, st := range list {
		result = append(result, impl.State{Locs: slices.Clone(st.Locs), Vals: slices.Clone(st.Vals)})
	}
	return result
}

func copyGraph(g impl.Graph) impl.Graph {
	result := impl.Graph{States: copyStates(g.States)}
	for _, list := range g.Next {
		result.Next = append(result.Next, slices.Clone(list))
	}
	return result
}

func overwriteStates(list []impl.State) {
	list = list[:cap(list)]
	for i := range list {
		overwriteState(list[i])
		list[i] = impl.State{Locs: []int{99}}
	}
}

func overwriteGraph(g impl.Graph) {
	overwriteStates(g.States)
	next := g.Next[:cap(g.Next)]
	for i := range next {
		overwriteInts(next[i])
		next[i] = []int{99}
	}
}

// noIntTwice checks that no two lists share memory.
func noIntTwice(t *testing.T, what string, lists [][]int) {
	t.Helper()
	seen := map[*int]bool{}
	for _, list := range lists {
		all := list[:cap(list)]
		for i := range all {
			if seen[&all[i]] {
				t.Fatalf("%s: two lists of a result share memory", what)
			}
			seen[&all[i]] = true
		}
	}
}

func stateLists(list []impl.State) [][]int {
	var lists [][]int
	for _, st := range list[:cap(list)] {
		lists = append(lists, st.Locs, st.Vals)
	}
	return lists
}

func TestGraphArgumentsStay(t *testing.T) {
	for k, before := range sampleGraphs(t) {
		if k%7 != 0 && len(before.States) < 4 {
			continue
		}
		g := roomyGraph(before)
		impl.GraphValid(g)
		impl.GraphSame(g, g)
		impl.GraphSame(g, before)
		overwriteInts(impl.Components(g))
		for to := range g.States {
			found := impl.ShortestPath(g, 0, to)
			path := roomyInts(found)
			impl.PathValid(g, path)
			if !untouchedInts(path, found) {
				t.Fatalf("PathValid changes the path %v", found)
			}
			overwriteInts(found)
		}
		if !untouchedGraph(g, before) {
			t.Fatalf("%v is changed", before)
		}
	}
}

func TestInvalidGraphArgumentsStay(t *testing.T) {
	for name, before := range invalidGraphs() {
		g := roomyGraph(before)
		impl.GraphValid(g)
		impl.GraphSame(g, before)
		impl.ShortestPath(g, 0, 1)
		impl.PathValid(g, []int{0, 1})
		impl.Components(g)
		if !untouchedGraph(g, before) {
			t.Errorf("%s: the graph is changed", name)
		}
	}
}

func TestGraphSystemArgumentsStay(t *testing.T) {
	exprs := largerExprs()
	for i, before := range graphSystems(t) {
		s, exprBefore := roomySystem(before), exprs[i%len(exprs)]
		e := roomy(exprBefore)
		g, _ := impl.BuildGraph(s)
		overwriteGraph(g)
		_, path := impl.CheckInvariant(s, e)
		overwriteStates(path)
		_, path = impl.CheckInvariant(s, constant(0))
		overwriteStates(path)
		_, path = impl.CheckDeadlock(s)
		overwriteStates(path)
		if !untouchedSystem(s, before) || !untouched(e, exprBefore) {
			t.Fatalf("%q or %s is changed", systemTextOf(before), textOf(exprBefore))
		}
	}
}

func TestBuildGraphSharesNoMemory(t *testing.T) {
	for _, s := range graphSystems(t) {
		first, ok := impl.BuildGraph(s)
		if !ok {
			continue
		}
		second, _ := impl.BuildGraph(s)
		want := copyGraph(second)
		noIntTwice(t, systemTextOf(s), append(stateLists(first.States), first.Next[:cap(first.Next)]...))
		overwriteGraph(first)
		if third, _ := impl.BuildGraph(s); !equalGraphs(second, want) || !equalGraphs(third, want) {
			t.Fatalf("%q: two results of BuildGraph share memory", systemTextOf(s))
		}
	}
}

func TestCounterexamplesShareNoMemory(t *testing.T) {
	failures := 0
	for _, s := range graphSystems(t) {
		for i, call := range []func() (int, []impl.State){
			func() (int, []impl.State) { return impl.CheckDeadlock(s) },
			func() (int, []impl.State) { return impl.CheckInvariant(s, variable(0)) },
			func() (int, []impl.State) { return impl.CheckInvariant(s, not(variable(1))) },
		} {
			verdict, first := call()
			_, second := call()
			want := copyStates(second)
			failures += bit(verdict == impl.VerdictFails && len(first) > 1)
			noIntTwice(t, systemTextOf(s), stateLists(first))
			overwriteStates(first)
			again, third := call()
			if again != verdict || !slices.EqualFunc(second, want, equalStates) || !slices.EqualFunc(third, want, equalStates) {
				t.Fatalf("%q: two results of check %d share memory", systemTextOf(s), i)
			}
		}
	}
	if failures < 50 {
		t.Errorf("only %d counterexamples of several states", failures)
	}
}

func TestPathsAndComponentsShareNoMemory(t *testing.T) {
	for _, g := range []impl.Graph{ring(1), ring(5), complete(60), ring(60), exampleGraph(), mixedGraph(&numbers{}, 40, 4)} {
		calls := []func() []int{func() []int { return impl.Components(g) }}
		for from := range g.States {
			for to := range g.States {
				calls = append(calls, func() []int { return impl.ShortestPath(g, from, to) })
			}
		}
		for _, call := range calls {
			first, second := call(), call()
			want := slices.Clone(second)
			overwriteInts(first)
			if third := call(); !slices.Equal(second, want) || !slices.Equal(third, want) {
				t.Fatalf("two results share memory: %v, %v, want %v", second, third, want)
			}
		}
	}
}

// A caller may use one list for several purposes.
func TestGraphsOfSharedLists(t *testing.T) {
	p := process(2, assigning(0, 1, 1, constant(3)))
	s := systemOf(p, p)
	all := []int{0, 1, 2}
	st := impl.State{Locs: all, Vals: all}
	g := impl.Graph{States: []impl.State{st, st, st}, Next: [][]int{all, all, all}}
	path := impl.ShortestPath(g, 2, 1)
	if !impl.GraphValid(g) || !impl.PathValid(g, all) || !slices.Equal(path, []int{2, 1}) || !slices.Equal(impl.Components(g), []int{0, 0, 0}) {
		t.Error("a graph of shared lists is treated differently")
	}
	s.Init = all
	got, ok := impl.BuildGraph(s)
	if !ok || statesText(got.States) != "00/012 10/032 01/032 11/032" || !slices.Equal(all, []int{0, 1, 2}) {
		t.Errorf("BuildGraph = %v, %v, and the list is %v", got, ok, all)
	}
	overwriteGraph(got)
	if !slices.Equal(all, []int{0, 1, 2}) {
		t.Error("a result shares memory with an argument")
	}
}
