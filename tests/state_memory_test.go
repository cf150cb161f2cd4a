package tests

import (
	"slices"
	"testing"

	"loop.example/ltlcheck/impl"
)

// roomyState returns a copy of st whose lists are parts of longer ones.
func roomyState(st impl.State) impl.State {
	return impl.State{
		Locs: append(slices.Clone(st.Locs), 77, 77)[:len(st.Locs)],
		Vals: append(slices.Clone(st.Vals), 77, 77)[:len(st.Vals)],
	}
}

// untouchedState reports whether st is still the roomy copy of before.
func untouchedState(st, before impl.State) bool {
	for _, list := range [][]int{st.Locs, st.Vals} {
		if beyond := list[len(list) : len(list)+2]; beyond[0] != 77 || beyond[1] != 77 {
			return false
		}
	}
	return equalStates(st, before)
}

func overwriteState(st impl.State) {
	overwriteInts(st.Locs)
	overwriteInts(st.Vals)
}

func TestStateArgumentsStay(t *testing.T) {
	for _, before := range stepSystems(t) {
		s := roomySystem(before)
		for i, stateBefore := range allStates(before) {
			if i%13 != 0 {
				continue
			}
			st := roomyState(stateBefore)
			initial, _ := impl.InitialState(s)
			overwriteState(initial)
			impl.StateValid(s, st)
			impl.StateSame(st, st)
			impl.StateSame(st, stateBefore)
			parsed, _ := impl.ParseState(s, impl.FormatState(st))
			overwriteState(parsed)
			impl.IsDeadlock(s, st)
			for _, step := range impl.EnabledSteps(s, st) {
				overwriteBools(impl.StepProcesses(s, step))
				next, _ := impl.ApplyStep(s, st, step)
				overwriteState(next)
			}
			if !untouchedState(st, stateBefore) {
				t.Fatalf("the state %v is changed", stateBefore)
			}
		}
		if !untouchedSystem(s, before) {
			t.Errorf("%q is changed", systemTextOf(before))
		}
	}
}

// checkSeparateLists checks that the lists of a state share no memory.
func checkSeparateLists(t *testing.T, st impl.State) {
	t.Helper()
	want := slices.Clone(st.Vals)
	overwriteInts(st.Locs)
	if !slices.Equal(st.Vals, want) {
		t.Error("the two lists of a result share memory")
	}
	locs := slices.Clone(st.Locs)
	for i := range st.Vals[:cap(st.Vals)] {
		st.Vals[:cap(st.Vals)][i] = 98
	}
	if !slices.Equal(st.Locs, locs) {
		t.Error("the two lists of a result share memory")
	}
}

func TestStateResultsShareNoMemory(t *testing.T) {
	for _, s := range stepSystems(t) {
		for i, st := range allStates(s) {
			if i%29 != 0 {
				continue
			}
			calls := []func() impl.State{
				func() impl.State { r, _ := impl.InitialState(s); return r },
				func() impl.State { r, _ := impl.ParseState(s, stateTextOf(st)); return r },
			}
			for _, step := range impl.EnabledSteps(s, st) {
				calls = append(calls, func() impl.State { r, _ := impl.ApplyStep(s, st, step); return r })
			}
			for j, call := range calls {
				first, second := call(), call()
				want := impl.State{Locs: slices.Clone(second.Locs), Vals: slices.Clone(second.Vals)}
				checkSeparateLists(t, first)
				if third := call(); !equalStates(second, want) || !equalStates(third, want) {
					t.Fatalf("two results of call %d share memory", j)
				}
			}
		}
	}
}

func TestStepListsShareNoMemory(t *testing.T) {
	for _, s := range stepSystems(t) {
		st, _ := impl.InitialState(s)
		first, second := impl.EnabledSteps(s, st), impl.EnabledSteps(s, st)
		want := slices.Clone(second)
		for i := range first[:cap(first)] {
			first[:cap(first)][i] = impl.Step{Process: 99, Edge: 99, Partner: 99, PartnerEdge: 99}
		}
		if third := impl.EnabledSteps(s, st); !slices.Equal(second, want) || !slices.Equal(third, want) {
			t.Errorf("two results of EnabledSteps share memory: %v, %v", second, third)
		}
		one, two := impl.StepProcesses(s, impl.Step{}), impl.StepProcesses(s, impl.Step{})
		wantTwo := slices.Clone(two)
		overwriteBools(one)
		if three := impl.StepProcesses(s, impl.Step{}); !slices.Equal(two, wantTwo) || !slices.Equal(three, wantTwo) {
			t.Errorf("two results of StepProcesses share memory: %v, %v", two, three)
		}
	}
}

// A caller may use one list for several purposes.
func TestStatesOfSharedLists(t *testing.T) {
	p := process(2, assigning(0, 1, 1, constant(3)))
	s := systemOf(p, p, p)
	st := impl.State{Locs: s.Init, Vals: s.Init}
	next, ok := impl.ApplyStep(s, st, impl.Step{Partner: -1, PartnerEdge: -1})
	if !ok || stateTextOf(next) != "100/030" || !slices.Equal(s.Init, []int{0, 0, 0}) {
		t.Errorf("ApplyStep = %v, %v, and the list is %v", next, ok, s.Init)
	}
	checkSeparateLists(t, next)
}
