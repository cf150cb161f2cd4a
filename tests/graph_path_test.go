package tests

import (
	"fmt"
	"slices"
	"testing"

	"loop.example/ltlcheck/impl"
)

// linked returns a graph with these successors, whose states are all alike.
func linked(next ...[]int) impl.Graph {
	g := impl.Graph{Next: next}
	for range next {
		g.States = append(g.States, stateOf([]int{0}, 0, 0, 0))
	}
	return g
}

// ring returns a graph of which each state leads to the next one, and the last
// one to the first.
func ring(states int) impl.Graph {
	var next [][]int
	for i := range states {
		next = append(next, []int{(i + 1) % states})
	}
	return linked(next...)
}

// complete returns a graph in which each state leads to all.
func complete(states int) impl.Graph {
	var next [][]int
	for range states {
		var all []int
		for j := range states {
			all = append(all, j)
		}
		next = append(next, all)
	}
	return linked(next...)
}

// mixedGraph returns a graph with this number of states, each of which has a few
// successors in any order.
func mixedGraph(n *numbers, states, most int) impl.Graph {
	var next [][]int
	for i := range states {
		list := []int{n.below(states)}
		for range n.below(most) {
			// Near states make long paths and many components.
			j := (i + states + n.below(5) - 2) % states
			if !slices.Contains(list, j) {
				list = append(list, j)
			}
		}
		if n.below(3) > 0 {
			list[0] = min(i+1, states-1)
			list = list[:1+bit(len(list) > 1 && list[1] != list[0])]
		}
		next = append(next, list)
	}
	return linked(next...)
}

// orderedLists returns all lists of one or more different states.
func orderedLists(states int) [][]int {
	list := [][]int{}
	for longer := [][]int{nil}; len(longer) > 0; {
		var longest [][]int
		for _, l := range longer {
			for i := range states {
				if !slices.Contains(l, i) {
					longest = append(longest, append(slices.Clone(l), i))
				}
			}
		}
		list = append(list, longest...)
		longer = longest
	}
	return list
}

// smallGraphs returns all graphs of 1 to 3 states, apart from what the states
// are.
func smallGraphs() []impl.Graph {
	var list []impl.Graph
	for states := 1; states <= 3; states++ {
		choices := [][][]int{nil}
		for range states {
			var longer [][][]int
			for _, c := range choices {
				for _, next := range orderedLists(states) {
					longer = append(longer, append(slices.Clone(c), next))
				}
			}
			choices = longer
		}
		for _, next := range choices {
			list = append(list, linked(next...))
		}
	}
	return list
}

func sampleGraphs(t *testing.T) []impl.Graph {
	t.Helper()
	list := append(smallGraphs(), ring(60), complete(60), ring(7))
	for _, s := range graphSystems(t) {
		if g := graphOf(s); len(g.States) <= impl.MaxStates {
			list = append(list, g)
		}
	}
	n := &numbers{last: 9}
	for states := 1; states <= 60; states++ {
		list = append(list, mixedGraph(n, states, 3), mixedGraph(n, states, 6))
	}
	return list
}

// invalidGraphs has a graph for each way to miss the definition, each of which
// is a ring of 3 states but for this one thing.
func invalidGraphs() map[string]impl.Graph {
	list := map[string]impl.Graph{}
	change := func(name string, do func(g *impl.Graph)) {
		g := ring(3)
		do(&g)
		list[name] = g
	}
	change("no states", func(g *impl.Graph) { g.States = nil })
	change("zero value", func(g *impl.Graph) { *g = impl.Graph{} })
	change("empty", func(g *impl.Graph) { *g = impl.Graph{States: []impl.State{}, Next: [][]int{}} })
	change("61 states", func(g *impl.Graph) { *g = ring(61) })
	change("61 states that lead to themselves", func(g *impl.Graph) { *g = linked(slices.Repeat([][]int{{0}}, 61)...) })
	change("65 states", func(g *impl.Graph) { *g = ring(65) })
	change("10000 states", func(g *impl.Graph) { *g = ring(10000) })
	change("no lists of successors", func(g *impl.Graph) { g.Next = nil })
	change("too few lists", func(g *impl.Graph) { g.Next = [][]int{{1}, {0}} })
	change("too many lists", func(g *impl.Graph) { g.Next = append(g.Next, []int{0}) })
	change("too many lists, the last empty", func(g *impl.Graph) { g.Next = append(g.Next, nil) })
	change("10000 lists", func(g *impl.Graph) { g.Next = slices.Repeat([][]int{{0}}, 10000) })
	for i := range 3 {
		change(fmt.Sprint("nil list ", i), func(g *impl.Graph) { g.Next[i] = nil })
		change(fmt.Sprint("empty list ", i), func(g *impl.Graph) { g.Next[i] = []int{} })
		change(fmt.Sprint("twice ", i), func(g *impl.Graph) { g.Next[i] = []int{1, 1} })
		change(fmt.Sprint("twice with another between ", i), func(g *impl.Graph) { g.Next[i] = []int{2, 0, 2} })
		change(fmt.Sprint("100000 times ", i), func(g *impl.Graph) { g.Next[i] = make([]int, 100000) })
		for _, index := range []int{-1 << 63, -64, -1, 3, 4, 60, 64, 1 << 32, 1<<63 - 1} {
			change(fmt.Sprint("index ", index, " in list ", i), func(g *impl.Graph) { g.Next[i] = []int{index} })
			change(fmt.Sprint("index ", index, " behind others in list ", i), func(g *impl.Graph) { g.Next[i] = []int{0, 1, 2, index} })
		}
		change(fmt.Sprint("no values ", i), func(g *impl.Graph) { g.States[i].Vals = nil })
		change(fmt.Sprint("2 values ", i), func(g *impl.Graph) { g.States[i].Vals = []int{0, 0} })
		change(fmt.Sprint("4 values ", i), func(g *impl.Graph) { g.States[i].Vals = []int{0, 0, 0, 0} })
		change(fmt.Sprint("100000 values ", i), func(g *impl.Graph) { g.States[i].Vals = make([]int, 100000) })
		for v := range impl.MaxVars {
			for _, value := range []int{-1 << 63, -1, 4, 256, 1<<63 - 1} {
				change(fmt.Sprint("value ", v, " of ", i, " is ", value), func(g *impl.Graph) { g.States[i].Vals[v] = value })
			}
		}
	}
	return list
}

func TestGraphValidAccepts(t *testing.T) {
	for _, g := range sampleGraphs(t) {
		if !impl.GraphValid(g) {
			t.Fatalf("GraphValid(%v) = false", g)
		}
	}
	for states := 1; states <= 60; states++ {
		if !impl.GraphValid(ring(states)) || !impl.GraphValid(complete(states)) {
			t.Errorf("GraphValid = false for %d states", states)
		}
	}
	for _, vals := range allVals() {
		if g := (impl.Graph{States: []impl.State{{Vals: vals}}, Next: [][]int{{0}}}); !impl.GraphValid(g) {
			t.Errorf("GraphValid with the values %v = false", vals)
		}
	}
	// The locations do not matter, and neither does which states there are.
	for _, locs := range [][]int{nil, {}, {0}, {-1}, {4, 4, 4, 4}, {1 << 62, -1 << 63}, make([]int, 1000)} {
		g := ring(3)
		g.States[1].Locs = locs
		if !impl.GraphValid(g) || len(impl.ShortestPath(g, 0, 2)) != 3 || !impl.PathValid(g, []int{0, 1}) || len(impl.Components(g)) != 3 {
			t.Errorf("GraphValid with %d locations = false", len(locs))
		}
	}
}

func TestInvalidGraphs(t *testing.T) {
	if !impl.GraphValid(ring(3)) {
		t.Fatal("GraphValid = false")
	}
	for name, g := range invalidGraphs() {
		if impl.GraphValid(g) {
			t.Errorf("%s: GraphValid = true", name)
		}
		for from := -1; from <= 3; from++ {
			for to := -1; to <= 3; to++ {
				if path := impl.ShortestPath(g, from, to); len(path) != 0 {
					t.Errorf("%s: ShortestPath from %d to %d = %v", name, from, to, path)
				}
			}
		}
		for _, path := range [][]int{nil, {}, {0}, {2}, {0, 1}, {0, 0}, {0, 1, 2, 0}, {-1}, {3}} {
			if impl.PathValid(g, path) {
				t.Errorf("%s: PathValid of %v = true", name, path)
			}
		}
		if c := impl.Components(g); len(c) != 0 {
			t.Errorf("%s: Components = %v", name, c)
		}
	}
}

func TestGraphHasEachIndexOnce(t *testing.T) {
	for index := range impl.MaxStates {
		g := complete(impl.MaxStates)
		g.Next[7] = append(g.Next[7], index)
		if impl.GraphValid(g) {
			t.Errorf("GraphValid with the successor %d twice = true", index)
		}
		g.Next[7] = []int{index, index}
		if impl.GraphValid(g) {
			t.Errorf("GraphValid with only the successor %d, twice, = true", index)
		}
		g.Next[7] = []int{index, (index + 32) % impl.MaxStates}
		if !impl.GraphValid(g) {
			t.Errorf("GraphValid with the successors %v = false", g.Next[7])
		}
	}
}

// changedGraphs returns graphs that differ from a ring of 3 states, and from
// each other, in one field each.
func changedGraphs() map[string]impl.Graph {
	list := map[string]impl.Graph{"nothing": ring(3)}
	change := func(name string, do func(g *impl.Graph)) {
		g := ring(3)
		do(&g)
		list[name] = g
	}
	change("fewer states", func(g *impl.Graph) { g.States = g.States[:2] })
	change("more states", func(g *impl.Graph) { g.States = append(g.States, stateOf([]int{0}, 0, 0, 0)) })
	change("fewer lists", func(g *impl.Graph) { g.Next = g.Next[:2] })
	change("more lists", func(g *impl.Graph) { g.Next = append(g.Next, nil) })
	change("4 states", func(g *impl.Graph) { *g = ring(4) })
	change("2 states", func(g *impl.Graph) { *g = ring(2) })
	change("zero value", func(g *impl.Graph) { *g = impl.Graph{} })
	change("only an empty state", func(g *impl.Graph) { *g = impl.Graph{States: make([]impl.State, 1)} })
	change("only an empty list", func(g *impl.Graph) { *g = impl.Graph{Next: make([][]int, 1)} })
	for i := range 3 {
		change(fmt.Sprint("location ", i), func(g *impl.Graph) { g.States[i].Locs[0] = 1 })
		change(fmt.Sprint("no location ", i), func(g *impl.Graph) { g.States[i].Locs = nil })
		change(fmt.Sprint("more locations ", i), func(g *impl.Graph) { g.States[i].Locs = []int{0, 0} })
		for v := range impl.MaxVars {
			change(fmt.Sprint("value ", v, " of ", i), func(g *impl.Graph) { g.States[i].Vals[v] = 1 })
		}
		change(fmt.Sprint("fewer values ", i), func(g *impl.Graph) { g.States[i].Vals = []int{0, 0} })
		change(fmt.Sprint("more values ", i), func(g *impl.Graph) { g.States[i].Vals = []int{0, 0, 0, 0} })
		change(fmt.Sprint("another successor ", i), func(g *impl.Graph) { g.Next[i] = []int{i} })
		change(fmt.Sprint("no successor ", i), func(g *impl.Graph) { g.Next[i] = nil })
		change(fmt.Sprint("more successors ", i), func(g *impl.Graph) { g.Next[i] = append(g.Next[i], i) })
		change(fmt.Sprint("another order ", i), func(g *impl.Graph) { g.Next[i] = []int{i, (i + 1) % 3} })
		change(fmt.Sprint("huge index ", i), func(g *impl.Graph) { g.Next[i] = []int{1<<32 + (i+1)%3} })
	}
	return list
}

func TestGraphSame(t *testing.T) {
	list := []impl.Graph{}
	for name, g := range changedGraphs() {
		if impl.GraphSame(g, ring(3)) != (name == "nothing") || impl.GraphSame(ring(3), g) != (name == "nothing") {
			t.Errorf("%s: GraphSame is wrong", name)
		}
		list = append(list, g)
	}
	for _, g := range invalidGraphs() {
		list = append(list, g)
	}
	list = append(list, complete(60), ring(60), ring(59), ring(1), exampleGraph())
	for j, b := range list {
		again := roomyGraph(b)
		for i, a := range list {
			if got := impl.GraphSame(a, again); got != equalGraphs(a, b) || i == j && !got {
				t.Fatalf("GraphSame of graphs %d and %d = %v", i, j, got)
			}
		}
	}
	empty := impl.Graph{States: []impl.State{{Locs: []int{}, Vals: []int{}}}, Next: [][]int{{}}}
	if !impl.GraphSame(empty, impl.Graph{States: make([]impl.State, 1), Next: make([][]int, 1)}) ||
		!impl.GraphSame(impl.Graph{}, impl.Graph{States: []impl.State{}, Next: [][]int{}}) {
		t.Error("a nil slice and an empty one differ")
	}
}

// exampleGraph is the graph of the chapter's example.
func exampleGraph() impl.Graph { return graphOf(exampleSystem()) }

func TestShortestPathOfEachCase(t *testing.T) {
	// There are two paths of the same length from 0 to 5, and a longer one
	// that begins with the first successor.
	several := linked([]int{1, 4, 3}, []int{2}, []int{5}, []int{5}, []int{5}, []int{5})
	for _, c := range []struct {
		name     string
		g        impl.Graph
		from, to int
		want     string
	}{
		{"the only state", ring(1), 0, 0, "[0]"},
		{"to itself without a step to itself", ring(3), 1, 1, "[1]"},
		{"to itself with a step to itself", complete(3), 2, 2, "[2]"},
		{"a step", ring(3), 0, 1, "[0 1]"},
		{"all around", ring(3), 1, 0, "[1 2 0]"},
		{"60 states", ring(60), 59, 58, fmt.Sprint(append([]int{59}, complete(59).Next[0]...))},
		{"the first of several", several, 0, 5, "[0 4 5]"},
		{"the first of several, in the order of successors", linked([]int{2, 1}, []int{3}, []int{3}, []int{3}), 0, 3, "[0 2 3]"},
		{"the first of several, in the order of their predecessors",
			linked([]int{2, 1}, []int{3, 5}, []int{4}, []int{5}, []int{3, 5}, []int{5}), 0, 3, "[0 1 3]"},
		{"the state before is the one found first",
			linked([]int{3, 1}, []int{2}, []int{5}, []int{4}, []int{5}, []int{5}), 0, 5, "[0 3 4 5]"},
		{"no path", linked([]int{0}, []int{0, 1}), 0, 1, "[]"},
		{"no path back", linked([]int{1}, []int{2}, []int{2}), 2, 0, "[]"},
		{"a path where there is none back", linked([]int{1}, []int{2}, []int{2}), 0, 2, "[0 1 2]"},
		{"from -1", ring(3), -1, 1, "[]"},
		{"to -1", ring(3), 1, -1, "[]"},
		{"from and to -1", ring(3), -1, -1, "[]"},
		{"from 3 of 3", ring(3), 3, 1, "[]"},
		{"to 3 of 3", ring(3), 1, 3, "[]"},
		{"from and to 3 of 3", ring(3), 3, 3, "[]"},
		{"from huge", ring(60), 1 << 62, 0, "[]"},
		{"to huge", ring(60), 0, 1 << 62, "[]"},
		{"from the least number", ring(60), -1 << 63, 0, "[]"},
		{"to the least number", ring(60), 0, -1 << 63, "[]"},
	} {
		if got := fmt.Sprint(impl.ShortestPath(c.g, c.from, c.to)); got != c.want {
			t.Errorf("%s: ShortestPath = %s, want %s", c.name, got, c.want)
		}
	}
}

// searchedPath is the chapter's text about the search, written down once more.
func searchedPath(g impl.Graph, from, to int) []int {
	found, before := []int{from}, map[int]int{}
	for i := 0; i < len(found); i++ {
		for _, next := range g.Next[found[i]] {
			if !slices.Contains(found, next) {
				found = append(found, next)
				before[next] = found[i]
			}
		}
	}
	if !slices.Contains(found, to) {
		return nil
	}
	path := []int{to}
	for path[0] != from {
		path = append([]int{before[path[0]]}, path...)
	}
	return path
}

func TestShortestPathOfAllGraphs(t *testing.T) {
	steps, none := 0, 0
	for _, g := range sampleGraphs(t) {
		for to := range g.States {
			far := distances(g, to)
			for from := range g.States {
				got := impl.ShortestPath(g, from, to)
				if want := pathOf(g, from, to); !slices.Equal(got, want) || !slices.Equal(got, searchedPath(g, from, to)) {
					t.Fatalf("ShortestPath from %d to %d in %v = %v, want %v", from, to, g.Next, got, want)
				}
				if len(got) == 0 {
					none++
					continue
				}
				steps += len(got) - 1
				if len(got)-1 != far[from] || got[0] != from || got[len(got)-1] != to || !impl.PathValid(g, got) {
					t.Fatalf("ShortestPath from %d to %d in %v = %v", from, to, g.Next, got)
				}
			}
		}
	}
	if steps < 100000 || none < 10000 {
		t.Errorf("only %d steps, and %d pairs of states without a path", steps, none)
	}
}

func TestPathValid(t *testing.T) {
	around := slices.Repeat([]int{0, 1, 2}, 100000)
	for _, c := range []struct {
		name string
		g    impl.Graph
		path []int
		want bool
	}{
		{"nil", ring(3), nil, false},
		{"empty", ring(3), []int{}, false},
		{"a state", ring(3), []int{2}, true},
		{"a step", ring(3), []int{1, 2}, true},
		{"a step back", ring(3), []int{2, 1}, false},
		{"no step to itself", ring(3), []int{1, 1}, false},
		{"steps to itself", complete(2), []int{1, 1, 1, 0}, true},
		{"around", ring(3), []int{2, 0, 1, 2, 0}, true},
		{"long", ring(3), around, true},
		{"long, the last step is wrong", ring(3), append(slices.Clone(around), 1), false},
		{"the first step is wrong", ring(3), []int{0, 2, 0, 1}, false},
		{"a step in between is wrong", ring(3), []int{0, 1, 0, 1}, false},
		{"the last successor", linked([]int{1, 0, 2}, []int{0}, []int{0}), []int{0, 2, 0, 0, 1}, true},
		{"-1 alone", ring(3), []int{-1}, false},
		{"-1 first", ring(3), []int{-1, 0}, false},
		{"-1 last", ring(3), []int{0, -1}, false},
		{"-1 in between", ring(3), []int{0, -1, 1}, false},
		{"3 alone", ring(3), []int{3}, false},
		{"3 first", ring(3), []int{3, 0}, false},
		{"3 last", ring(3), []int{2, 3}, false},
		{"60 of 60", ring(60), []int{59, 60}, false},
		{"59 of 60", ring(60), []int{58, 59, 0}, true},
		{"huge", ring(60), []int{1 << 62}, false},
		{"the least number", ring(60), []int{0, -1 << 63}, false},
	} {
		if got := impl.PathValid(c.g, c.path); got != c.want {
			t.Errorf("%s: PathValid = %v", c.name, got)
		}
	}
}

// All paths of up to 4 elements, some of them no states, in all small graphs.
func TestPathValidOfAllPaths(t *testing.T) {
	paths := [][]int{nil}
	for i := 0; len(paths[i]) < 4; i++ {
		for j := -1; j <= 3; j++ {
			paths = append(paths, append(slices.Clone(paths[i]), j))
		}
	}
	for k, g := range smallGraphs() {
		for i, path := range paths {
			if k > 200 && (i+k)%5 != 0 {
				continue
			}
			want := len(path) > 0
			for at, j := range path {
				want = want && j >= 0 && j < len(g.States) && (at == 0 || slices.Contains(g.Next[path[at-1]], j))
			}
			if got := impl.PathValid(g, path); got != want {
				t.Fatalf("PathValid of %v in %v = %v", path, g.Next, got)
			}
		}
	}
}

func TestComponentsOfEachCase(t *testing.T) {
	for _, c := range []struct {
		name string
		g    impl.Graph
		want string
	}{
		{"a state", ring(1), "[0]"},
		{"a cycle", ring(5), "[0 0 0 0 0]"},
		{"states of their own", linked([]int{1}, []int{2}, []int{3}, []int{3}), "[0 1 2 3]"},
		{"states of their own with steps to themselves", linked([]int{0, 1}, []int{1, 2}, []int{2}), "[0 1 2]"},
		{"states that are not connected", linked([]int{0}, []int{1}, []int{2}), "[0 1 2]"},
		{"backwards", linked([]int{0}, []int{0}, []int{1}, []int{2}), "[0 1 2 3]"},
		{"a search leaves the last one first", linked([]int{2}, []int{1}, []int{1}), "[0 1 2]"},
		{"a search leaves the inner one first", linked([]int{1, 3}, []int{2}, []int{1}, []int{0}), "[0 1 1 0]"},
		{"one around another", linked([]int{2}, []int{3, 0}, []int{2, 3}, []int{2, 1}), "[0 0 0 0]"},
		{"two cycles that meet in a state", linked([]int{1}, []int{2, 3}, []int{0}, []int{1}), "[0 0 0 0]"},
		{"two cycles one after the other", linked([]int{1}, []int{0, 2}, []int{3}, []int{2}), "[0 0 1 1]"},
		{"two cycles the other way round", linked([]int{1}, []int{0}, []int{3, 1}, []int{2}), "[0 0 1 1]"},
		{"mixed cycles", linked([]int{2}, []int{3}, []int{0, 1}, []int{1}), "[0 1 0 1]"},
		{"a state in front of and one behind a cycle", linked([]int{3}, []int{1}, []int{3, 1}, []int{2}), "[0 1 2 2]"},
		{"a way into a component that is finished", linked([]int{1, 2}, []int{1}, []int{1, 0}), "[0 1 0]"},
		{"the example", exampleGraph(), "[0 1 2 3 4]"},
	} {
		if got := fmt.Sprint(impl.Components(c.g)); got != c.want {
			t.Errorf("%s: Components = %s, want %s", c.name, got, c.want)
		}
	}
	if got := impl.Components(complete(60)); !slices.Equal(got, make([]int, 60)) {
		t.Errorf("Components of 60 states = %v", got)
	}
}

func TestComponentsOfAllGraphs(t *testing.T) {
	several := 0
	for _, g := range sampleGraphs(t) {
		var reaches [][]int
		for to := range g.States {
			reaches = append(reaches, distances(g, to))
		}
		want, count := make([]int, len(g.States)), 0
		for i := range want {
			want[i] = count
			for j := range i {
				if reaches[j][i] < unreachable && reaches[i][j] < unreachable {
					want[i] = want[j]
				}
			}
			count = max(count, want[i]+1)
		}
		several += bit(count > 1 && count < len(want))
		if got := impl.Components(g); !slices.Equal(got, want) {
			t.Fatalf("Components of %v = %v, want %v", g.Next, got, want)
		}
	}
	if several < 500 {
		t.Errorf("only %d graphs with components of several states", several)
	}
}
