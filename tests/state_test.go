package tests

import (
	"fmt"
	"slices"
	"strings"
	"testing"

	"loop.example/ltlcheck/impl"
)

func mustParseSystem(t *testing.T, text string) impl.System {
	t.Helper()
	s, ok := impl.ParseSystem(text)
	if !ok {
		t.Fatalf("ParseSystem(%q) = false", text)
	}
	return s
}

func stateOf(locs []int, vals ...int) impl.State { return impl.State{Locs: locs, Vals: vals} }

func equalStates(a, b impl.State) bool {
	return slices.Equal(a.Locs, b.Locs) && slices.Equal(a.Vals, b.Vals)
}

func isZeroState(st impl.State) bool { return len(st.Locs) == 0 && len(st.Vals) == 0 }

// stateTextOf is the text of a state whose numbers are digits.
func stateTextOf(st impl.State) string {
	text := strings.Trim(fmt.Sprint(st.Locs), "[]") + "/" + strings.Trim(fmt.Sprint(st.Vals), "[]")
	return strings.ReplaceAll(text, " ", "")
}

// allLocs returns every choice of a location for each process.
func allLocs(s impl.System) [][]int {
	list := [][]int{nil}
	for _, p := range s.Processes {
		var longer [][]int
		for _, locs := range list {
			for l := range p.Locations {
				longer = append(longer, append(slices.Clone(locs), l))
			}
		}
		list = longer
	}
	return list
}

func allStates(s impl.System) []impl.State {
	var list []impl.State
	for _, locs := range allLocs(s) {
		for _, vals := range allVals() {
			list = append(list, impl.State{Locs: slices.Clone(locs), Vals: vals})
		}
	}
	return list
}

func edgeAt(s impl.System, process, edge int) (impl.Edge, bool) {
	if process < 0 || process >= len(s.Processes) || edge < 0 || edge >= len(s.Processes[process].Edges) {
		return impl.Edge{}, false
	}
	return s.Processes[process].Edges[edge], true
}

// canBeTaken is the test's own definition of an enabled step.
func canBeTaken(s impl.System, st impl.State, step impl.Step) bool {
	e, ok := edgeAt(s, step.Process, step.Edge)
	if !ok || st.Locs[step.Process] != e.From || valueOf(e.Guard, st.Vals) == 0 || e.Sync < 0 {
		return false
	}
	if e.Sync == 0 {
		return step.Partner == -1 && step.PartnerEdge == -1
	}
	f, ok := edgeAt(s, step.Partner, step.PartnerEdge)
	return ok && step.Partner != step.Process && f.Sync == -e.Sync &&
		st.Locs[step.Partner] == f.From && valueOf(f.Guard, st.Vals) != 0
}

// stateAfter is the test's own definition of what an enabled step does.
func stateAfter(s impl.System, st impl.State, step impl.Step) impl.State {
	locs, vals := slices.Clone(st.Locs), slices.Clone(st.Vals)
	e, _ := edgeAt(s, step.Process, step.Edge)
	locs[step.Process] = e.To
	if e.Var >= 0 {
		vals[e.Var] = valueOf(e.Value, vals)
	}
	if f, ok := edgeAt(s, step.Partner, step.PartnerEdge); ok {
		locs[step.Partner] = f.To
		if f.Var >= 0 {
			vals[f.Var] = valueOf(f.Value, vals)
		}
	}
	return impl.State{Locs: locs, Vals: vals}
}

// nearbySteps returns, in ascending order, all the steps of a system and those
// whose indices are a little outside.
func nearbySteps(s impl.System) []impl.Step {
	most := 0
	for _, p := range s.Processes {
		most = max(most, len(p.Edges))
	}
	var list []impl.Step
	for p := -1; p <= len(s.Processes); p++ {
		for e := -1; e <= most; e++ {
			for q := -1; q <= len(s.Processes); q++ {
				for f := -1; f <= most; f++ {
					list = append(list, impl.Step{Process: p, Edge: e, Partner: q, PartnerEdge: f})
				}
			}
		}
	}
	return list
}

// numbers is a source of numbers that are the same in every run.
type numbers struct{ last uint64 }

func (n *numbers) below(bound int) int {
	n.last = n.last*6364136223846793005 + 1442695040888963407
	return int(n.last >> 33 % uint64(bound))
}

// mixedSystem returns a system with edges of all kinds. Half of the edges send
// or receive on channel 1, so that most of them find partners.
func mixedSystem(n *numbers) impl.System {
	exprs := sampleExprs()
	var processes []impl.Process
	for range 1 + n.below(3) {
		p := impl.Process{Locations: 1 + n.below(3)}
		for range n.below(7) {
			e := plain(n.below(p.Locations), n.below(p.Locations))
			e.Sync = []int{0, 0, 1, 1, -1, -1, 2, -2}[n.below(8)]
			if n.below(2) == 0 {
				e.Guard = exprs[n.below(len(exprs))]
			}
			if n.below(3) > 0 {
				e.Var, e.Value = n.below(3), exprs[n.below(len(exprs))]
			}
			p.Edges = append(p.Edges, e)
		}
		processes = append(processes, p)
	}
	return withInit(systemOf(processes...), n.below(4), n.below(4), n.below(4))
}

// stepTexts are systems in which the processes meet in the ways that the
// chapter distinguishes.
var stepTexts = []string{
	exampleText,
	// No partner at all; one on the other channel; one in the same process; one
	// in another location; one whose Guard is false.
	"system 0 0 0\nprocess 1\nedge 0 0 1 x:=1 !1\n",
	"system 0 0 0\nprocess 1\nedge 0 0 1 x:=1 !1\nprocess 1\nedge 0 0 1 - ?2\n",
	"system 0 0 0\nprocess 1\nedge 0 0 1 x:=1 !1\nedge 0 0 1 - ?1\n",
	"system 0 0 0\nprocess 1\nedge 0 0 1 x:=1 !1\nprocess 2\nedge 1 0 1 - ?1\n",
	"system 0 0 0\nprocess 1\nedge 0 0 1 x:=1 !1\nprocess 1\nedge 0 0 x - ?1\n",
	// Two that send to each other, and two that receive.
	"system 0 0 0\nprocess 1\nedge 0 0 1 - !1\nprocess 1\nedge 0 0 1 - !1\n",
	"system 0 0 0\nprocess 1\nedge 0 0 1 - ?1\nprocess 1\nedge 0 0 1 - ?1\n",
	// Several partners with several edges each, around the one that sends.
	"system 0 0 0\nprocess 1\nedge 0 0 1 x:=1 ?1\nedge 0 0 1 x:=2 ?1\n" +
		"process 1\nedge 0 0 1 - ?1\nedge 0 0 1 y:=3 !1\nedge 0 0 1 - -\nedge 0 0 1 y:=2 !1\n" +
		"process 1\nedge 0 0 1 z:=1 ?1\nedge 0 0 1 z:=2 ?2\nedge 0 0 1 z:=3 ?1\n",
	// Both edges assign; the partner reads what is assigned, and assigns it, too.
	"system 1 0 0\nprocess 1\nedge 0 0 1 x:=(x+1) !2\nprocess 1\nedge 0 0 1 x:=(x+x) ?2\nedge 0 0 1 y:=(x-1) ?2\n",
}

func stepSystems(t *testing.T) []impl.System {
	t.Helper()
	list := []impl.System{largestSystem(), systemOf(process(4)), systemOf(process(2), process(1), process(3))}
	for _, text := range stepTexts {
		list = append(list, mustParseSystem(t, text))
	}
	n := &numbers{}
	for range 100 {
		list = append(list, mixedSystem(n))
	}
	return list
}

func TestInitialState(t *testing.T) {
	for _, s := range sampleSystems() {
		st, ok := impl.InitialState(s)
		if want := stateOf(make([]int, len(s.Processes)), s.Init...); !ok || !equalStates(st, want) {
			t.Errorf("InitialState(%q) = %v, %v", systemTextOf(s), st, ok)
		}
		if !impl.StateValid(s, st) {
			t.Errorf("the initial state of %q is not valid", systemTextOf(s))
		}
	}
}

func TestStatesOfInvalidSystems(t *testing.T) {
	for name, s := range invalidSystems() {
		st := stateOf(make([]int, len(s.Processes)), 0, 0, 0)
		if got, ok := impl.InitialState(s); ok || !isZeroState(got) {
			t.Errorf("%s: InitialState = %v, %v", name, got, ok)
		}
		if impl.StateValid(s, st) || impl.StateValid(s, impl.State{}) || impl.StateValid(s, stateOf([]int{0}, s.Init...)) {
			t.Errorf("%s: StateValid = true", name)
		}
		if got, ok := impl.ParseState(s, stateTextOf(st)); ok || !isZeroState(got) {
			t.Errorf("%s: ParseState = %v, %v", name, got, ok)
		}
		if steps := impl.EnabledSteps(s, st); len(steps) != 0 {
			t.Errorf("%s: EnabledSteps = %v", name, steps)
		}
		if got, ok := impl.ApplyStep(s, st, impl.Step{Partner: -1, PartnerEdge: -1}); ok || !isZeroState(got) {
			t.Errorf("%s: ApplyStep = %v, %v", name, got, ok)
		}
		if impl.IsDeadlock(s, st) || impl.IsDeadlock(s, impl.State{}) {
			t.Errorf("%s: IsDeadlock = true", name)
		}
		if got := impl.StepProcesses(s, impl.Step{}); len(got) != 0 {
			t.Errorf("%s: StepProcesses = %v", name, got)
		}
	}
}

func TestStateValidAccepts(t *testing.T) {
	for _, s := range stepSystems(t) {
		for _, st := range allStates(s) {
			if !impl.StateValid(s, st) {
				t.Fatalf("StateValid(%q, %v) = false", systemTextOf(s), st)
			}
		}
	}
}

// invalidStates has states that a system with a process of 4 locations and one
// of 2, both with an edge from location 0 that can always be taken, has not.
func invalidStates() map[string]impl.State {
	list := map[string]impl.State{
		"zero value":        {},
		"no locations":      stateOf(nil, 0, 0, 0),
		"no values":         stateOf([]int{0, 0}),
		"1 location":        stateOf([]int{0}, 0, 0, 0),
		"3 locations":       stateOf([]int{0, 0, 0}, 0, 0, 0),
		"2 values":          stateOf([]int{0, 0}, 0, 0),
		"4 values":          stateOf([]int{0, 0}, 0, 0, 0, 0),
		"4 of 4 locations":  stateOf([]int{4, 0}, 0, 0, 0),
		"2 of 2 locations":  stateOf([]int{0, 2}, 0, 0, 0),
		"location -1":       stateOf([]int{-1, 0}, 0, 0, 0),
		"location -1, last": stateOf([]int{0, -1}, 0, 0, 0),
		"huge location":     stateOf([]int{1 << 62, 0}, 0, 0, 0),
		"many locations":    stateOf(make([]int, 100000), 0, 0, 0),
		"many values":       stateOf([]int{0, 0}, make([]int, 100000)...),
	}
	for i := range impl.MaxVars {
		for _, v := range []int{-1 << 63, -1, 4, 256, 1<<63 - 1} {
			st := stateOf([]int{0, 0}, 0, 0, 0)
			st.Vals[i] = v
			list[fmt.Sprint("value ", i, " is ", v)] = st
		}
	}
	return list
}

func TestInvalidStates(t *testing.T) {
	s := systemOf(process(4, plain(0, 1)), process(2, plain(0, 0)))
	step := impl.Step{Partner: -1, PartnerEdge: -1}
	good := stateOf([]int{0, 0}, 0, 0, 0)
	if _, ok := impl.ApplyStep(s, good, step); !ok || !impl.StateValid(s, good) {
		t.Fatal("a valid state is refused")
	}
	for name, st := range invalidStates() {
		if impl.StateValid(s, st) {
			t.Errorf("%s: StateValid = true", name)
		}
		if steps := impl.EnabledSteps(s, st); len(steps) != 0 {
			t.Errorf("%s: EnabledSteps = %v", name, steps)
		}
		if got, ok := impl.ApplyStep(s, st, step); ok || !isZeroState(got) {
			t.Errorf("%s: ApplyStep = %v, %v", name, got, ok)
		}
		if impl.IsDeadlock(s, st) || impl.IsDeadlock(systemOf(process(4), process(2)), st) {
			t.Errorf("%s: IsDeadlock = true", name)
		}
	}
}

func TestStateSame(t *testing.T) {
	list := []impl.State{
		{}, stateOf(nil, 0), stateOf([]int{0}), stateOf([]int{0, 0}), stateOf([]int{0}, 0), stateOf([]int{0}, 0, 0), stateOf([]int{0, 0}, 0),
		stateOf([]int{1}, 2), stateOf([]int{2}, 1), stateOf([]int{1, 2}), stateOf(nil, 1, 2), stateOf([]int{12}), stateOf(nil, 12),
		stateOf([]int{-1}, 1<<62), stateOf([]int{1<<63 - 1}, -1<<63), stateOf([]int{256}, 0), stateOf([]int{1 << 32}, 0), stateOf([]int{0}, 1<<32),
		stateOf([]int{0, 1, 2}, 0, 1, 2), stateOf([]int{0, 1, 2}, 0, 1, 3), stateOf([]int{0, 1, 3}, 0, 1, 2), stateOf([]int{3, 1, 2}, 0, 1, 2),
		stateOf([]int{0, 1, 2}, 3, 1, 2), stateOf([]int{0, 1, 2}, 0, 3, 2), stateOf([]int{0, 3, 2}, 0, 1, 2),
	}
	for _, st := range invalidStates() {
		list = append(list, st)
	}
	for i, a := range list {
		for j, b := range list {
			c := impl.State{Locs: slices.Clone(b.Locs), Vals: slices.Clone(b.Vals)}
			if got := impl.StateSame(a, c); got != equalStates(a, b) || i == j && !got {
				t.Errorf("StateSame(%.60v, %.60v) = %v", a, b, got)
			}
		}
	}
	if !impl.StateSame(impl.State{}, impl.State{Locs: []int{}, Vals: []int{}}) {
		t.Error("a nil slice and an empty one differ")
	}
}

func TestFormatState(t *testing.T) {
	for _, c := range []struct {
		st   impl.State
		want string
	}{
		{impl.State{}, "/"},
		{impl.State{Locs: []int{}, Vals: []int{}}, "/"},
		{stateOf([]int{3}), "3/"},
		{stateOf(nil, 2), "/2"},
		{stateOf([]int{0, 0}, 0, 0, 0), "00/000"},
		{stateOf([]int{1, 0}, 1, 1, 0), "10/110"},
		{stateOf([]int{3, 1, 2}, 0, 1, 2), "312/012"},
		// These are no states of any system.
		{stateOf([]int{0, 1, 2, 3, 4, 5, 6, 7, 8, 9}, 9, 8, 7, 6, 5, 4, 3, 2, 1, 0), "0123456789/9876543210"},
		{stateOf([]int{10}, 0, 0, 0), ""},
		{stateOf([]int{-1}, 0, 0, 0), ""},
		{stateOf([]int{0}, 0, 0, 10), ""},
		{stateOf([]int{0}, -1, 0, 0), ""},
		{stateOf([]int{0, 1 << 40}, 0, 0, 0), ""},
		{stateOf([]int{0, 256}, 0, 0, 0), ""},
		{stateOf([]int{0}, 0, -256, 0), ""},
		{stateOf([]int{0}, 0, 1<<63-1, 0), ""},
		{stateOf([]int{0}, 0, -1<<63, 0), ""},
	} {
		if got := impl.FormatState(c.st); got != c.want {
			t.Errorf("FormatState(%v) = %q, want %q", c.st, got, c.want)
		}
	}
	many := impl.State{Locs: make([]int, 100000), Vals: make([]int, 100000)}
	if zeros := strings.Repeat("0", 100000); impl.FormatState(many) != zeros+"/"+zeros {
		t.Error("FormatState of a long state is wrong")
	}
}

func TestStatesAreReadBack(t *testing.T) {
	for _, s := range stepSystems(t) {
		for _, st := range allStates(s) {
			text := impl.FormatState(st)
			got, ok := impl.ParseState(s, text)
			if text != stateTextOf(st) || !ok || !equalStates(got, st) {
				t.Fatalf("%v: FormatState = %q, ParseState = %v, %v", st, text, got, ok)
			}
		}
	}
}

// checkStateText compares ParseState with the texts of all states of a system.
func checkStateText(t *testing.T, s impl.System, texts map[string]bool, text string) {
	t.Helper()
	st, ok := impl.ParseState(s, text)
	if ok != texts[text] || !ok && !isZeroState(st) || ok && stateTextOf(st) != text {
		t.Fatalf("ParseState(%.60q) = %v, %v for a system with %d processes", text, st, ok, len(s.Processes))
	}
}

func TestParseStateOfTextsNearby(t *testing.T) {
	for _, s := range []impl.System{
		systemOf(process(1)), systemOf(process(4)), systemOf(process(3), process(1)), systemOf(process(2), process(4), process(1)),
	} {
		texts := map[string]bool{}
		for _, st := range allStates(s) {
			texts[stateTextOf(st)] = true
		}
		for _, text := range []string{"0/000", "3/333", "00/000", "20/123", "000/000", "130/320", "0000/000", "/000", "/", "", "0/0/00", "//////"} {
			checkStateText(t, s, texts, text)
			for i := range len(text) + 1 {
				for c := range 256 {
					insert := string([]byte{byte(c)})
					checkStateText(t, s, texts, text[:i]+insert+text[i:])
					if i < len(text) {
						checkStateText(t, s, texts, text[:i]+insert+text[i+1:])
					}
				}
				for j := i; j <= len(text); j++ {
					checkStateText(t, s, texts, text[:i]+text[j:])
				}
			}
		}
		for _, text := range []string{
			"\uff10/000", "0/00\uff10", "0/-1-1-1", "-0/000", "+0/000", "0/00 0", "00/00/0",
			strings.Repeat("0", 1000000), strings.Repeat("/", 1000000), "0/000" + strings.Repeat("0", 1000000),
		} {
			checkStateText(t, s, texts, text)
		}
	}
}

func TestParseStateRefuses(t *testing.T) {
	s := mustParseSystem(t, exampleText)
	for _, text := range []string{
		"", "/", "00", "000", "00000", "00/", "/000", "0/000", "000/000", "20/000", "01/000", "0-/000", "00/004", "00/400", "00/00", "00/0000",
		"00/000/", "00//000", "/00/000", "00/000\n", " 00/000", "00 /000", "00\\000", "00/0:0", "00/0/0", "00/00x", "x0/000",
	} {
		if st, ok := impl.ParseState(s, text); ok || !isZeroState(st) {
			t.Errorf("ParseState(%q) = %v, %v", text, st, ok)
		}
	}
}

func TestStepsOfTheExample(t *testing.T) {
	s := mustParseSystem(t, exampleText)
	for _, c := range []struct {
		from, steps, to string
	}{
		{"00/000", "[{0 0 1 0}]", "10/110"},
		{"10/110", "[{0 1 -1 -1}]", "00/110"},
		{"00/110", "[{0 0 1 0}]", "10/220"},
		{"10/220", "[{0 1 -1 -1}]", "00/220"},
		{"00/220", "[]", ""},
		{"00/300", "[]", ""},
		{"10/333", "[{0 1 -1 -1}]", "00/333"},
		{"00/032", "[{0 0 1 0}]", "10/112"},
	} {
		st, _ := impl.ParseState(s, c.from)
		steps := impl.EnabledSteps(s, st)
		if fmt.Sprint(steps) != c.steps || impl.IsDeadlock(s, st) != (c.to == "") {
			t.Errorf("EnabledSteps in %s = %v", c.from, steps)
		}
		for _, step := range steps {
			if next, ok := impl.ApplyStep(s, st, step); !ok || stateTextOf(next) != c.to {
				t.Errorf("ApplyStep in %s = %v, %v", c.from, next, ok)
			}
		}
	}
}

// Each case is a system, a state, its enabled steps and the states after them.
func TestStepsOfEachCase(t *testing.T) {
	const sender = "system 0 0 0\nprocess 2\nedge 0 1 1 x:=1 !1\n"
	for _, c := range []struct {
		name, system, from, steps, to string
	}{
		{"a send without another process", sender, "0/000", "[]", ""},
		{"a send while the other has no edge", sender + "process 1\n", "00/000", "[]", ""},
		{"a send while the other receives elsewhere", sender + "process 1\nedge 0 0 1 - ?2\n", "00/000", "[]", ""},
		{"a send while the other is not there", sender + "process 2\nedge 1 0 1 - ?1\n", "00/000", "[]", ""},
		{"a send while the other is there", sender + "process 2\nedge 1 0 1 - ?1\n", "01/000", "[{0 0 1 0}]", "10/100"},
		// The Guard of the partner does not see the assignment.
		{"a send that makes the other ready", sender + "process 1\nedge 0 0 x - ?1\n", "00/000", "[]", ""},
		{"a send that makes the other unready", sender + "process 1\nedge 0 0 !x - ?1\n", "00/000", "[{0 0 1 0}]", "10/100"},
		{"a send to a sender", sender + "process 1\nedge 0 0 1 - !1\n", "00/000", "[]", ""},
		{"a send to the same process", "system 0 0 0\nprocess 2\nedge 0 1 1 - !1\nedge 0 1 1 - ?1\n", "0/000", "[]", ""},
		{"a send to the same process or another", "system 0 0 0\nprocess 2\nedge 0 1 1 - !1\nedge 0 1 1 - ?1\nprocess 2\nedge 0 1 1 - ?1\n",
			"00/000", "[{0 0 1 0}]", "11/000"},
		{"a receive alone", "system 0 0 0\nprocess 1\nedge 0 0 1 - ?1\nprocess 1\nedge 0 0 1 - ?1\n", "00/000", "[]", ""},
		{"two edges without a channel", "system 0 0 0\nprocess 1\nedge 0 0 1 x:=1 -\nprocess 1\nedge 0 0 1 y:=1 -\n",
			"00/000", "[{0 0 -1 -1} {1 0 -1 -1}]", "00/100 00/010"},
		{"a partner that reads", sender + "process 1\nedge 0 0 1 y:=(x+1) ?1\n", "00/000", "[{0 0 1 0}]", "10/120"},
		{"a partner in front that reads", "system 0 0 0\nprocess 1\nedge 0 0 1 y:=(x+1) ?1\nprocess 2\nedge 0 1 1 x:=1 !1\n",
			"00/000", "[{1 0 0 0}]", "01/120"},
		{"a sender that reads", "system 0 0 0\nprocess 1\nedge 0 0 1 x:=y !1\nprocess 1\nedge 0 0 1 y:=2 ?1\n", "00/010", "[{0 0 1 0}]", "00/120"},
		{"the same variable", sender + "process 1\nedge 0 0 1 x:=2 ?1\n", "00/300", "[{0 0 1 0}]", "10/200"},
		{"the same variable, read", sender + "process 1\nedge 0 0 1 x:=(x+2) ?1\n", "00/300", "[{0 0 1 0}]", "10/300"},
		{"an exchange", "system 0 0 0\nprocess 1\nedge 0 0 1 x:=y !1\nprocess 1\nedge 0 0 1 y:=x ?1\n", "00/120", "[{0 0 1 0}]", "00/220"},
		{"a guard with the value 2", "system 0 0 0\nprocess 1\nedge 0 0 2 x:=3 -\n", "0/000", "[{0 0 -1 -1}]", "0/300"},
		{"the same edge twice", "system 0 0 0\nprocess 2\nedge 0 1 1 - -\nedge 0 1 1 - -\n", "0/000", "[{0 0 -1 -1} {0 1 -1 -1}]", "1/000 1/000"},
		{"several partners", stepTexts[8], "000/000",
			"[{1 1 0 0} {1 1 0 1} {1 1 2 0} {1 1 2 2} {1 2 -1 -1} {1 3 0 0} {1 3 0 1} {1 3 2 0} {1 3 2 2}]",
			"000/130 000/230 000/031 000/033 000/000 000/120 000/220 000/021 000/023"},
		{"both channels", "system 0 0 0\nprocess 1\nedge 0 0 1 - !2\nedge 0 0 1 - !1\nprocess 1\nedge 0 0 1 x:=1 ?1\nedge 0 0 1 x:=2 ?2\n",
			"00/000", "[{0 0 1 1} {0 1 1 0}]", "00/200 00/100"},
		{"to each other", "system 0 0 0\nprocess 1\nedge 0 0 1 x:=1 !1\nedge 0 0 1 y:=1 ?2\nprocess 1\nedge 0 0 1 x:=2 ?1\nedge 0 0 1 y:=2 !2\n",
			"00/000", "[{0 0 1 0} {1 1 0 1}]", "00/200 00/010"},
	} {
		s := mustParseSystem(t, c.system)
		st, ok := impl.ParseState(s, c.from)
		steps := impl.EnabledSteps(s, st)
		if !ok || fmt.Sprint(steps) != c.steps || impl.IsDeadlock(s, st) != (c.to == "") {
			t.Errorf("%s: EnabledSteps = %v, IsDeadlock = %v", c.name, steps, impl.IsDeadlock(s, st))
		}
		var after []string
		for _, step := range steps {
			next, _ := impl.ApplyStep(s, st, step)
			after = append(after, stateTextOf(next))
		}
		if got := strings.Join(after, " "); got != c.to {
			t.Errorf("%s: the states after the steps are %s", c.name, got)
		}
	}
}

// Every system is compared with the test's own definitions in all its states.
func TestStepsInAllStates(t *testing.T) {
	enabled, together := 0, 0
	for _, s := range stepSystems(t) {
		near := nearbySteps(s)
		for _, st := range allStates(s) {
			var want []impl.Step
			for _, step := range near {
				if canBeTaken(s, st, step) {
					want = append(want, step)
				}
			}
			enabled += len(want)
			got := impl.EnabledSteps(s, st)
			if !slices.Equal(got, want) || impl.IsDeadlock(s, st) != (len(want) == 0) {
				t.Fatalf("%q: EnabledSteps in %s = %v, want %v", systemTextOf(s), stateTextOf(st), got, want)
			}
			for _, step := range want {
				together += bit(step.Partner >= 0)
				next, ok := impl.ApplyStep(s, st, step)
				if !ok || !equalStates(next, stateAfter(s, st, step)) {
					t.Fatalf("%q: ApplyStep in %s of %v = %v, %v", systemTextOf(s), stateTextOf(st), step, next, ok)
				}
			}
		}
	}
	if enabled < 10000 || together < 2000 {
		t.Errorf("only %d steps, %d of them of two edges", enabled, together)
	}
}

func TestApplyStepRefuses(t *testing.T) {
	for _, s := range stepSystems(t) {
		near := nearbySteps(s)
		for i, st := range allStates(s) {
			if i%211 != 0 {
				continue
			}
			for _, step := range near {
				next, ok := impl.ApplyStep(s, st, step)
				if ok != canBeTaken(s, st, step) || !ok && !isZeroState(next) {
					t.Fatalf("%q: ApplyStep in %s of %v = %v, %v", systemTextOf(s), stateTextOf(st), step, next, ok)
				}
			}
		}
	}
}

func TestApplyStepRefusesIndices(t *testing.T) {
	s := mustParseSystem(t, "system 0 0 0\nprocess 1\nedge 0 0 1 x:=1 !1\nedge 0 0 1 - -\nedge 0 0 1 - ?1\nprocess 1\nedge 0 0 1 y:=x ?1\n")
	st := stateOf([]int{0, 0}, 0, 0, 0)
	step := func(process, edge, partner, partnerEdge int) impl.Step {
		return impl.Step{Process: process, Edge: edge, Partner: partner, PartnerEdge: partnerEdge}
	}
	for _, good := range []impl.Step{step(0, 0, 1, 0), step(0, 1, -1, -1)} {
		if _, ok := impl.ApplyStep(s, st, good); !ok {
			t.Errorf("ApplyStep of %v = false", good)
		}
	}
	bad := []impl.Step{
		{}, step(0, 0, -1, -1), step(0, 0, -1, 0), step(0, 0, 1, -1), step(0, 0, 0, 2), step(0, 0, 1, 1),
		step(0, 1, 1, 0), step(0, 1, -1, 0), step(0, 1, 1, -1), step(0, 1, 0, 0), step(0, 1, -2, -2), step(0, 1, -2, -1), step(0, 1, -1, -2),
		step(0, 2, -1, -1), step(1, 0, -1, -1), step(1, 0, 0, 0), step(0, 2, 1, 0),
	}
	for _, n := range []int{-1 << 63, -2, -1, 3, 1 << 32, 1<<63 - 1} {
		bad = append(bad, step(n, 0, 1, 0), step(0, n, 1, 0), step(0, 0, n, 0), step(0, 0, 1, n), step(n, 1, -1, -1), step(0, n, -1, -1))
	}
	for _, step := range bad {
		if next, ok := impl.ApplyStep(s, st, step); ok || !isZeroState(next) {
			t.Errorf("ApplyStep of %v = %v, %v", step, next, ok)
		}
	}
}

// Promise 3: a step that is enabled leads from a valid state to a valid state
// and changes only what its edges assign.
func TestStepsChangeOnlyWhatTheirEdgesAssign(t *testing.T) {
	for _, s := range stepSystems(t) {
		for _, st := range allStates(s) {
			for _, step := range impl.EnabledSteps(s, st) {
				checkChange(t, s, st, step)
			}
		}
	}
}

func checkChange(t *testing.T, s impl.System, st impl.State, step impl.Step) {
	t.Helper()
	next, ok := impl.ApplyStep(s, st, step)
	if !ok || !impl.StateValid(s, next) {
		t.Fatalf("%q: ApplyStep in %s of %v = %v, %v", systemTextOf(s), stateTextOf(st), step, next, ok)
	}
	assigned := map[int]bool{}
	e, _ := edgeAt(s, step.Process, step.Edge)
	assigned[e.Var] = true
	if f, ok := edgeAt(s, step.Partner, step.PartnerEdge); ok {
		assigned[f.Var] = true
	}
	takesPart := impl.StepProcesses(s, step)
	for i := range s.Processes {
		if next.Locs[i] != st.Locs[i] && !takesPart[i] {
			t.Errorf("%q: %v in %s changes the location of process %d", systemTextOf(s), step, stateTextOf(st), i)
		}
	}
	for v := range impl.MaxVars {
		if next.Vals[v] != st.Vals[v] && !assigned[v] {
			t.Errorf("%q: %v in %s changes the variable %d", systemTextOf(s), step, stateTextOf(st), v)
		}
	}
}

func TestStepProcesses(t *testing.T) {
	three := systemOf(process(1), process(2), process(3))
	for _, c := range []struct {
		s    impl.System
		step impl.Step
		want string
	}{
		{three, impl.Step{Process: 0, Partner: -1, PartnerEdge: -1}, "[true false false]"},
		{three, impl.Step{Process: 1, Partner: -1}, "[false true false]"},
		{three, impl.Step{Process: 0, Partner: 2}, "[true false true]"},
		{three, impl.Step{Process: 2, Partner: 1}, "[false true true]"},
		// A step need not be one of the system.
		{three, impl.Step{}, "[true false false]"},
		{three, impl.Step{Process: 1, Edge: 99, Partner: 1, PartnerEdge: -99}, "[false true false]"},
		{three, impl.Step{Process: 3, Partner: -1}, "[false false false]"},
		{three, impl.Step{Process: -1, Partner: 3}, "[false false false]"},
		{three, impl.Step{Process: -1, Partner: 0}, "[true false false]"},
		{three, impl.Step{Process: -1 << 63, Partner: 1<<63 - 1}, "[false false false]"},
		{systemOf(process(1)), impl.Step{Process: 1, Partner: 2}, "[false]"},
		{systemOf(process(1)), impl.Step{}, "[true]"},
		{exampleSystem(), impl.Step{Partner: 1}, "[true true]"},
	} {
		if got := fmt.Sprint(impl.StepProcesses(c.s, c.step)); got != c.want {
			t.Errorf("StepProcesses of %v = %s, want %s", c.step, got, c.want)
		}
	}
}

// A process may have as many steps as all limits together allow.
func TestMostSteps(t *testing.T) {
	send, receive := withSync(plain(0, 0), 2), withSync(plain(0, 0), -2)
	s := systemOf(process(1, repeated(6, send)...), process(1, repeated(6, receive)...), process(1, repeated(6, receive)...))
	steps := impl.EnabledSteps(s, stateOf([]int{0, 0, 0}, 0, 0, 0))
	var want []impl.Step
	for e := range 6 {
		for q := 1; q <= 2; q++ {
			for f := range 6 {
				want = append(want, impl.Step{Process: 0, Edge: e, Partner: q, PartnerEdge: f})
			}
		}
	}
	if !slices.Equal(steps, want) {
		t.Errorf("EnabledSteps = %v", steps)
	}
}
