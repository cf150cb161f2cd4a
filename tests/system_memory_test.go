package tests

import (
	"testing"

	"loop.example/ltlcheck/impl"
)

// roomySystem returns a copy of s in which every list is a part of a longer
// one, whose other elements have numbers that no sample has.
func roomySystem(s impl.System) impl.System {
	init := append([]int(nil), s.Init...)
	init = append(init, 77, 77)[:len(s.Init)]
	processes := make([]impl.Process, len(s.Processes)+2)
	for i := range processes {
		processes[i].Locations = 77
	}
	for i, p := range s.Processes {
		edges := make([]impl.Edge, len(p.Edges)+2)
		for j := range edges {
			edges[j].From = 77
		}
		for j, e := range p.Edges {
			e.Guard, e.Value = roomy(e.Guard), roomy(e.Value)
			edges[j] = e
		}
		processes[i] = impl.Process{Locations: p.Locations, Edges: edges[:len(p.Edges)]}
	}
	return impl.System{Init: init, Processes: processes[:len(s.Processes)]}
}

// untouchedSystem reports whether s is still the roomy copy of before.
func untouchedSystem(s impl.System, before impl.System) bool {
	if !equalSystems(s, before) {
		return false
	}
	for _, v := range s.Init[len(s.Init) : len(s.Init)+2] {
		if v != 77 {
			return false
		}
	}
	for _, p := range s.Processes[len(s.Processes):cap(s.Processes)] {
		if p.Locations != 77 || p.Edges != nil {
			return false
		}
	}
	for i, p := range s.Processes {
		for j, e := range p.Edges {
			f := before.Processes[i].Edges[j]
			if !untouched(e.Guard, f.Guard) || !untouched(e.Value, f.Value) {
				return false
			}
		}
		for _, e := range p.Edges[len(p.Edges):cap(p.Edges)] {
			if e.From != 77 || e.To != 0 || e.Var != 0 || e.Sync != 0 || !isZero(e.Guard) || !isZero(e.Value) {
				return false
			}
		}
	}
	return true
}

// overwriteSystem writes to all the memory that s refers to.
func overwriteSystem(s impl.System) {
	overwriteInts(s.Init)
	processes := s.Processes[:cap(s.Processes)]
	for i := range processes {
		edges := processes[i].Edges[:cap(processes[i].Edges)]
		for j := range edges {
			overwrite(edges[j].Guard)
			overwrite(edges[j].Value)
			edges[j] = impl.Edge{From: 99, To: 99, Var: 99, Sync: 99}
		}
		processes[i] = impl.Process{Locations: 99}
	}
}

func overwriteInts(list []int) {
	list = list[:cap(list)]
	for i := range list {
		list[i] = 99
	}
}

func TestSystemArgumentsStay(t *testing.T) {
	for _, before := range sampleSystems() {
		s := roomySystem(before)
		impl.SystemValid(s)
		impl.SystemSame(s, s)
		impl.SystemSame(s, before)
		impl.FormatSystem(s)
		read, written := impl.SystemVars(s)
		overwriteBools(read)
		overwriteBools(written)
		for i, p := range s.Processes {
			overwriteBools(impl.SystemReach(s, i))
			for _, e := range p.Edges {
				impl.EdgeValid(e, p.Locations)
			}
		}
		if !untouchedSystem(s, before) {
			t.Errorf("%q is changed", systemTextOf(before))
		}
	}
}

// noMemoryTwice checks that no two lists of s share memory.
func noMemoryTwice(t *testing.T, s impl.System) {
	t.Helper()
	edges := map[*impl.Edge]bool{}
	exprs := map[*impl.Expr]bool{}
	for _, p := range s.Processes[:cap(s.Processes)] {
		all := p.Edges[:cap(p.Edges)]
		for i := range all {
			if edges[&all[i]] {
				t.Error("two lists of edges of a result share memory")
			}
			edges[&all[i]] = true
			for _, place := range places(all[i].Value, places(all[i].Guard, nil)) {
				if exprs[place] {
					t.Error("two expressions of a result share memory")
				}
				exprs[place] = true
			}
		}
	}
}

func TestParseSystemSharesNoMemory(t *testing.T) {
	for _, want := range sampleSystems() {
		text := systemTextOf(want)
		first, ok1 := impl.ParseSystem(text)
		second, ok2 := impl.ParseSystem(text)
		if !ok1 || !ok2 {
			t.Fatalf("ParseSystem(%q) = false", text)
		}
		noMemoryTwice(t, first)
		overwriteSystem(first)
		third, ok3 := impl.ParseSystem(text)
		if !ok3 || !equalSystems(second, want) || !equalSystems(third, want) {
			t.Errorf("ParseSystem(%q): two results share memory", text)
		}
	}
}

func TestSystemVarsShareNoMemory(t *testing.T) {
	s := systemOf(process(1, assigning(0, 0, 1, variable(0))))
	read, written := impl.SystemVars(s)
	readAgain, writtenAgain := impl.SystemVars(s)
	overwriteBools(read)
	if written[0] || !written[1] || written[2] {
		t.Errorf("the two results of a call share memory: %v", written)
	}
	overwriteBools(written)
	if !readAgain[0] || readAgain[1] || readAgain[2] || writtenAgain[0] || !writtenAgain[1] || writtenAgain[2] {
		t.Errorf("the results of two calls share memory: %v, %v", readAgain, writtenAgain)
	}
}

func TestSystemReachSharesNoMemory(t *testing.T) {
	s := systemOf(process(3, plain(0, 2)))
	first, second := impl.SystemReach(s, 0), impl.SystemReach(s, 0)
	overwriteBools(first)
	third := impl.SystemReach(s, 0)
	for _, got := range [][]bool{second, third} {
		if len(got) != 3 || !got[0] || got[1] || !got[2] {
			t.Errorf("two results share memory: %v", got)
		}
	}
}
