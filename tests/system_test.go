package tests

import (
	"fmt"
	"regexp"
	"strings"
	"testing"

	"loop.example/ltlcheck/impl"
)

const exampleText = "system 0 0 0\n" +
	"process 2\n" +
	"edge 0 1 (x<2) x:=(x+1) !1\n" +
	"edge 1 0 1 - -\n" +
	"process 1\n" +
	"edge 0 0 1 y:=x ?1\n"

// plain returns an edge that can always be taken, alone, and assigns nothing.
func plain(from, to int) impl.Edge {
	return impl.Edge{From: from, To: to, Guard: constant(1), Var: -1}
}

func assigning(from, to int, v int, value impl.Expr) impl.Edge {
	return impl.Edge{From: from, To: to, Guard: constant(1), Var: v, Value: value}
}

func withSync(e impl.Edge, sync int) impl.Edge {
	e.Sync = sync
	return e
}

func withGuard(e impl.Edge, guard impl.Expr) impl.Edge {
	e.Guard = guard
	return e
}

func process(locations int, edges ...impl.Edge) impl.Process {
	return impl.Process{Locations: locations, Edges: edges}
}

func systemOf(processes ...impl.Process) impl.System {
	return impl.System{Init: []int{0, 0, 0}, Processes: processes}
}

func withInit(s impl.System, init ...int) impl.System {
	s.Init = init
	return s
}

// repeated returns n times the same edge.
func repeated(n int, e impl.Edge) []impl.Edge {
	var list []impl.Edge
	for range n {
		list = append(list, e)
	}
	return list
}

func exampleSystem() impl.System {
	x := variable(0)
	increment := impl.Edge{
		From: 0, To: 1, Guard: binary(impl.ExprLess, x, constant(2)),
		Var: 0, Value: binary(impl.ExprAdd, x, constant(1)), Sync: 1,
	}
	return systemOf(
		process(2, increment, plain(1, 0)),
		process(1, withSync(assigning(0, 0, 1, x), -1)),
	)
}

// largestSystem is at every limit of a system.
func largestSystem() impl.System {
	e := impl.Edge{From: 3, To: 3, Guard: fullSum(4, variable(2)), Var: 2, Value: chain(6, constant(3)), Sync: 2}
	p := process(4, repeated(6, e)...)
	return withInit(systemOf(p, p, p), 3, 3, 3)
}

// sampleSystems has ordinary systems, those at the limits, and systems with
// every sample of an expression as a Guard and as a Value.
func sampleSystems() []impl.System {
	list := []impl.System{
		exampleSystem(), largestSystem(),
		systemOf(process(1)), systemOf(process(4)), systemOf(process(2), process(1), process(3)),
		withInit(systemOf(process(1)), 1, 2, 3),
		systemOf(process(1), process(2, plain(1, 0))),
		systemOf(process(2, plain(1, 0)), process(1)),
		systemOf(process(1, repeated(6, plain(0, 0))...), process(1)),
	}
	for sync := -2; sync <= 2; sync++ {
		list = append(list, systemOf(process(1, withSync(plain(0, 0), sync))))
	}
	var edges []impl.Edge
	for i, e := range sampleExprs() {
		edges = append(edges, withGuard(plain(i%4, i/4%4), e), assigning(i/2%4, i%4, i%3, e))
	}
	for i := 0; i < len(edges); i += 7 {
		first, second := edges[i:min(i+4, len(edges))], edges[min(i+4, len(edges)):min(i+7, len(edges))]
		list = append(list, withInit(systemOf(process(4, first...), process(4, second...)), i%4, i/4%4, i/16%4))
	}
	return list
}

func systemTextOf(s impl.System) string {
	text := fmt.Sprintf("system %d %d %d\n", s.Init[0], s.Init[1], s.Init[2])
	for _, p := range s.Processes {
		text += fmt.Sprintf("process %d\n", p.Locations)
		for _, e := range p.Edges {
			assignment, sync := "-", "-"
			if e.Var >= 0 {
				assignment = string("xyz"[e.Var]) + ":=" + textOf(e.Value)
			}
			if e.Sync != 0 {
				sync = map[int]string{1: "!1", 2: "!2", -1: "?1", -2: "?2"}[e.Sync]
			}
			text += fmt.Sprintf("edge %d %d %s %s %s\n", e.From, e.To, textOf(e.Guard), assignment, sync)
		}
	}
	return text
}

// equalSystems is the test's own comparison, for finite expressions.
func equalSystems(a, b impl.System) bool {
	if fmt.Sprint(a.Init) != fmt.Sprint(b.Init) || len(a.Processes) != len(b.Processes) {
		return false
	}
	for i, p := range a.Processes {
		q := b.Processes[i]
		if p.Locations != q.Locations || len(p.Edges) != len(q.Edges) {
			return false
		}
		for j, e := range p.Edges {
			f := q.Edges[j]
			if [4]int{e.From, e.To, e.Var, e.Sync} != [4]int{f.From, f.To, f.Var, f.Sync} ||
				!equalExprs(e.Guard, f.Guard) || !equalExprs(e.Value, f.Value) {
				return false
			}
		}
	}
	return true
}

func isZeroSystem(s impl.System) bool { return len(s.Init) == 0 && len(s.Processes) == 0 }

var systemPattern = regexp.MustCompile(`^system [0-3] [0-3] [0-3]\n` +
	`(process [1-4]\n(edge [0-3] [0-3] [^ \n]+ (-|[xyz]:=[^ \n]+) (-|[!?][12])\n){0,6}){1,3}$`)

// isSystemText says whether text is the text of a valid system: by a pattern,
// and for the expressions and the locations, which a pattern cannot tell, by
// looking at each edge.
func isSystemText(text string) bool {
	if !systemPattern.MatchString(text) {
		return false
	}
	locations := ""
	for _, line := range strings.Split(text, "\n") {
		fields := strings.Split(line, " ")
		if fields[0] == "process" {
			locations = fields[1]
		}
		if fields[0] != "edge" {
			continue
		}
		if fields[1] >= locations || fields[2] >= locations {
			return false
		}
		if _, ok := impl.ParseExpr(fields[3]); !ok {
			return false
		}
		if _, ok := impl.ParseExpr(fields[4][min(3, len(fields[4])):]); !ok && fields[4] != "-" {
			return false
		}
	}
	return true
}

// checkSystemText checks everything that ParseSystem has to do with a text.
func checkSystemText(t *testing.T, text string) {
	t.Helper()
	s, ok := impl.ParseSystem(text)
	if ok != isSystemText(text) {
		t.Fatalf("ParseSystem(%.200q) = %v", text, ok)
	}
	if !ok && !isZeroSystem(s) {
		t.Fatalf("ParseSystem(%.200q) returns %v together with false", text, s)
	}
	if ok && (!impl.SystemValid(s) || systemTextOf(s) != text || impl.FormatSystem(s) != text) {
		t.Fatalf("ParseSystem(%.200q) = %v, whose text is %q", text, s, impl.FormatSystem(s))
	}
}

func TestEdgeValidByLocations(t *testing.T) {
	for locations := -2; locations <= 7; locations++ {
		for from := -2; from <= 7; from++ {
			for to := -2; to <= 7; to++ {
				want := locations <= 4 && from >= 0 && from < locations && to >= 0 && to < locations
				if got := impl.EdgeValid(plain(from, to), locations); got != want {
					t.Errorf("EdgeValid of an edge from %d to %d with %d locations = %v", from, to, locations, got)
				}
			}
		}
	}
	for _, n := range []int{1 << 40, -1 << 40, 1<<63 - 1, -1 << 63} {
		if impl.EdgeValid(plain(0, 0), n) || impl.EdgeValid(plain(n, 0), 4) || impl.EdgeValid(plain(0, n), 4) {
			t.Errorf("EdgeValid accepts %d", n)
		}
	}
}

func TestEdgeValidByVarAndSync(t *testing.T) {
	for _, v := range []int{-1 << 63, -3, -2, -1, 0, 1, 2, 3, 4, 1 << 40} {
		e := assigning(0, 0, v, constant(2))
		if got := impl.EdgeValid(e, 1); got != (v >= 0 && v <= 2) {
			t.Errorf("EdgeValid with Var %d and a Value = %v", v, got)
		}
		e.Value = impl.Expr{}
		if got := impl.EdgeValid(e, 1); got != (v == -1) {
			t.Errorf("EdgeValid with Var %d and no Value = %v", v, got)
		}
	}
	for _, sync := range []int{-1 << 63, -4, -3, -2, -1, 0, 1, 2, 3, 4, 1 << 40} {
		if got := impl.EdgeValid(withSync(plain(0, 0), sync), 1); got != (sync >= -2 && sync <= 2) {
			t.Errorf("EdgeValid with Sync %d = %v", sync, got)
		}
	}
}

func TestEdgeValidByExpressions(t *testing.T) {
	for _, e := range sampleExprs() {
		if !impl.EdgeValid(withGuard(plain(0, 0), e), 1) {
			t.Errorf("EdgeValid with the Guard %s = false", textOf(e))
		}
		for v := range impl.MaxVars {
			if !impl.EdgeValid(assigning(0, 0, v, e), 1) {
				t.Errorf("EdgeValid with the Value %s = false", textOf(e))
			}
		}
		if impl.EdgeValid(assigning(0, 0, -1, e), 1) {
			t.Errorf("EdgeValid with the Value %s for no variable = true", textOf(e))
		}
	}
	for name, e := range invalidExprs() {
		if impl.EdgeValid(withGuard(plain(0, 0), e), 1) {
			t.Errorf("EdgeValid with an invalid Guard, %s, = true", name)
		}
		if impl.EdgeValid(assigning(0, 0, 1, e), 1) {
			t.Errorf("EdgeValid with an invalid Value, %s, = true", name)
		}
		if got := impl.EdgeValid(assigning(0, 0, -1, e), 1); got != (name == "zero value") {
			t.Errorf("EdgeValid with the Value of %s for no variable = %v", name, got)
		}
	}
}

func TestEdgeValidWithoutAssignment(t *testing.T) {
	for _, c := range []struct {
		name  string
		value impl.Expr
		want  bool
	}{
		{"zero value", impl.Expr{}, true},
		{"empty slice", impl.Expr{Kids: []impl.Expr{}}, true},
		{"kind", impl.Expr{Kind: impl.ExprConst}, false},
		{"value", impl.Expr{Value: 1}, false},
		{"operands", impl.Expr{Kids: []impl.Expr{{}}}, false},
	} {
		if got := impl.EdgeValid(assigning(0, 0, -1, c.value), 1); got != c.want {
			t.Errorf("%s: EdgeValid = %v", c.name, got)
		}
	}
	// The zero value of an edge assigns an invalid Value to x.
	if impl.EdgeValid(impl.Edge{}, 1) || impl.EdgeValid(impl.Edge{Var: -1}, 1) {
		t.Error("an edge without a Guard is accepted")
	}
}

func TestSystemValidAccepts(t *testing.T) {
	for _, s := range sampleSystems() {
		if !impl.SystemValid(s) {
			t.Errorf("SystemValid(%q) = false", systemTextOf(s))
		}
	}
	s := systemOf(impl.Process{Locations: 1, Edges: []impl.Edge{}})
	if !impl.SystemValid(s) || impl.FormatSystem(s) != "system 0 0 0\nprocess 1\n" {
		t.Error("an empty slice of edges is not accepted as none")
	}
}

func TestSystemLimitsAreInclusive(t *testing.T) {
	p := process(1)
	for _, c := range []struct {
		name string
		s    impl.System
		want bool
	}{
		{"1 process", systemOf(p), true},
		{"3 processes", systemOf(p, p, p), true},
		{"4 processes", systemOf(p, p, p, p), false},
		{"1 location", systemOf(process(1)), true},
		{"4 locations", systemOf(process(4)), true},
		{"5 locations", systemOf(process(5)), false},
		{"6 edges", systemOf(process(1, repeated(6, plain(0, 0))...)), true},
		{"7 edges", systemOf(process(1, repeated(7, plain(0, 0))...)), false},
		{"7 edges of the last process", systemOf(p, p, process(1, repeated(7, plain(0, 0))...)), false},
		{"sends on 2", systemOf(process(1, withSync(plain(0, 0), 2))), true},
		{"sends on 3", systemOf(process(1, withSync(plain(0, 0), 3))), false},
		{"receives on 2", systemOf(process(1, withSync(plain(0, 0), -2))), true},
		{"receives on 3", systemOf(process(1, withSync(plain(0, 0), -3))), false},
		{"Var 2", systemOf(process(1, assigning(0, 0, 2, constant(0)))), true},
		{"Var 3", systemOf(process(1, assigning(0, 0, 3, constant(0)))), false},
		{"Var -1", systemOf(process(1, assigning(0, 0, -1, impl.Expr{}))), true},
		{"Var -2", systemOf(process(1, assigning(0, 0, -2, impl.Expr{}))), false},
		{"initial values 0", withInit(systemOf(p), 0, 0, 0), true},
		{"initial values 3", withInit(systemOf(p), 3, 3, 3), true},
		{"initial value 4 of x", withInit(systemOf(p), 4, 0, 0), false},
		{"initial value 4 of z", withInit(systemOf(p), 0, 0, 4), false},
		{"initial value -1 of y", withInit(systemOf(p), 0, -1, 0), false},
	} {
		if got := impl.SystemValid(c.s); got != c.want {
			t.Errorf("%s: SystemValid = %v", c.name, got)
		}
		if got := impl.FormatSystem(c.s) != ""; got != c.want {
			t.Errorf("%s: FormatSystem = %q", c.name, impl.FormatSystem(c.s))
		}
	}
}

// invalidSystems has a system for each way to miss the definition.
func invalidSystems() map[string]impl.System {
	p := process(1, plain(0, 0))
	list := map[string]impl.System{
		"zero value":            {},
		"no process":            systemOf(),
		"only processes":        {Processes: []impl.Process{p}},
		"4 processes":           systemOf(p, p, p, p),
		"100000 processes":      {Init: []int{0, 0, 0}, Processes: make([]impl.Process, 100000)},
		"no initial value":      withInit(systemOf(p)),
		"2 initial values":      withInit(systemOf(p), 0, 0),
		"4 initial values":      withInit(systemOf(p), 0, 0, 0, 0),
		"100000 initial values": withInit(systemOf(p), make([]int, 100000)...),
		"initial value -1":      withInit(systemOf(p), -1, 0, 0),
		"initial value 4":       withInit(systemOf(p), 0, 0, 4),
		"no location":           systemOf(process(0)),
		"-1 locations":          systemOf(process(-1)),
		"5 locations":           systemOf(process(5)),
		"7 edges":               systemOf(process(1, repeated(7, plain(0, 0))...)),
		"100000 edges":          systemOf(process(1, repeated(100000, plain(0, 0))...)),
		"no location in second": systemOf(p, process(0)),
		"edge without Guard":    systemOf(process(1, impl.Edge{Var: -1})),
		"Var -1 with Value":     systemOf(process(1, assigning(0, 0, -1, constant(0)))),
		"Var 0 without Value":   systemOf(process(1, assigning(0, 0, 0, impl.Expr{}))),
	}
	for name, e := range map[string]impl.Edge{
		"From 2 of 2": plain(2, 0), "To 2 of 2": plain(0, 2), "From -1": plain(-1, 0), "To -1": plain(0, -1),
		"Var 3": assigning(0, 0, 3, constant(0)), "Var -2": assigning(0, 0, -2, impl.Expr{}),
		"Sync 3": withSync(plain(0, 0), 3), "Sync -3": withSync(plain(0, 0), -3),
	} {
		list[name] = systemOf(process(2, e))
		list[name+", last of all"] = systemOf(process(4, plain(2, 2)), process(2, plain(0, 1), e))
	}
	for name, e := range invalidExprs() {
		list["Guard: "+name] = systemOf(process(1, withGuard(plain(0, 0), e)))
		list["Value: "+name] = systemOf(p, process(1, plain(0, 0), assigning(0, 0, 2, e)))
	}
	return list
}

func TestSystemInvalid(t *testing.T) {
	for name, s := range invalidSystems() {
		if impl.SystemValid(s) {
			t.Errorf("%s: SystemValid = true", name)
		}
		if text := impl.FormatSystem(s); text != "" {
			t.Errorf("%s: FormatSystem = %q", name, text)
		}
		if read, written := impl.SystemVars(s); len(read) != 0 || len(written) != 0 {
			t.Errorf("%s: SystemVars = %v, %v", name, read, written)
		}
		for i := -1; i <= len(s.Processes) && i < 5; i++ {
			if reach := impl.SystemReach(s, i); len(reach) != 0 {
				t.Errorf("%s: SystemReach of process %d = %v", name, i, reach)
			}
		}
	}
}

func TestSystemSameOfSamples(t *testing.T) {
	list, again := sampleSystems(), sampleSystems()
	for i, a := range list {
		for j, b := range again {
			if got := impl.SystemSame(a, b); got != equalSystems(a, b) || i == j && !got {
				t.Errorf("SystemSame(%q, %q) = %v", systemTextOf(a), systemTextOf(b), got)
			}
		}
	}
}

// changedSystems returns systems that differ from the example, and from each
// other, in one field each.
func changedSystems() map[string]impl.System {
	list := map[string]impl.System{"nothing": exampleSystem()}
	change := func(name string, do func(s *impl.System)) {
		s := exampleSystem()
		do(&s)
		list[name] = s
	}
	for i := range impl.MaxVars {
		change(fmt.Sprint("Init ", i), func(s *impl.System) { s.Init[i] = 7 })
	}
	change("shorter Init", func(s *impl.System) { s.Init = s.Init[:2] })
	change("longer Init", func(s *impl.System) { s.Init = append(s.Init, 0) })
	change("fewer processes", func(s *impl.System) { s.Processes = s.Processes[:1] })
	change("more processes", func(s *impl.System) { s.Processes = append(s.Processes, impl.Process{}) })
	change("no process", func(s *impl.System) { s.Processes = nil })
	for i, p := range exampleSystem().Processes {
		change(fmt.Sprint("Locations ", i), func(s *impl.System) { s.Processes[i].Locations = 9 })
		change(fmt.Sprint("fewer edges ", i), func(s *impl.System) { s.Processes[i].Edges = s.Processes[i].Edges[1:] })
		change(fmt.Sprint("more edges ", i), func(s *impl.System) {
			s.Processes[i].Edges = append(s.Processes[i].Edges, impl.Edge{})
		})
		for j := range p.Edges {
			edge := func(name string, do func(e *impl.Edge)) {
				change(fmt.Sprint(name, i, j), func(s *impl.System) { do(&s.Processes[i].Edges[j]) })
			}
			edge("From", func(e *impl.Edge) { e.From = 5 })
			edge("To", func(e *impl.Edge) { e.To = 5 })
			edge("Var", func(e *impl.Edge) { e.Var = 5 })
			edge("Sync", func(e *impl.Edge) { e.Sync = 5 })
			edge("Guard", func(e *impl.Edge) { e.Guard = not(e.Guard) })
			edge("Guard's Value", func(e *impl.Edge) { e.Guard.Value = 3 })
			edge("Value", func(e *impl.Edge) { e.Value = not(e.Value) })
			edge("Value's Value", func(e *impl.Edge) { e.Value.Value = 3 })
		}
	}
	return list
}

func TestSystemSameOfEachField(t *testing.T) {
	list, again := changedSystems(), changedSystems()
	for nameA, a := range list {
		for nameB, b := range again {
			if got := impl.SystemSame(a, b); got != (nameA == nameB) {
				t.Errorf("SystemSame with changes of %s and of %s = %v", nameA, nameB, got)
			}
		}
	}
}

func TestSystemSameAcceptsInvalid(t *testing.T) {
	empty := impl.System{Init: []int{}, Processes: []impl.Process{}}
	if !impl.SystemSame(impl.System{}, empty) || !impl.SystemSame(empty, impl.System{}) {
		t.Error("nil slices and empty ones are different")
	}
	a := systemOf(impl.Process{Edges: []impl.Edge{}})
	if b := systemOf(impl.Process{}); !impl.SystemSame(a, b) || !impl.SystemSame(b, a) {
		t.Error("nil edges and no edges are different")
	}
	list, again := invalidSystems(), invalidSystems()
	for name, s := range list {
		if !impl.SystemSame(s, again[name]) {
			t.Errorf("%s: SystemSame of two copies = false", name)
		}
		if impl.SystemSame(s, exampleSystem()) || impl.SystemSame(exampleSystem(), s) {
			t.Errorf("%s: SystemSame with the example = true", name)
		}
	}
	cycles := func(kind int) impl.System {
		return systemOf(process(1, assigning(0, 0, 0, cyclic(kind, 2))))
	}
	if !impl.SystemSame(cycles(impl.ExprAdd), cycles(impl.ExprAdd)) || impl.SystemSame(cycles(impl.ExprAdd), cycles(impl.ExprSub)) {
		t.Error("SystemSame of expressions that lead back to themselves")
	}
}

func TestFormatSystem(t *testing.T) {
	x := variable(0)
	for _, c := range []struct {
		s    impl.System
		want string
	}{
		{exampleSystem(), exampleText},
		{systemOf(process(1)), "system 0 0 0\nprocess 1\n"},
		{withInit(systemOf(process(4), process(3)), 1, 2, 3), "system 1 2 3\nprocess 4\nprocess 3\n"},
		{systemOf(process(3, withSync(plain(2, 1), 2))), "system 0 0 0\nprocess 3\nedge 2 1 1 - !2\n"},
		{systemOf(process(3, withSync(plain(2, 1), -2))), "system 0 0 0\nprocess 3\nedge 2 1 1 - ?2\n"},
		{systemOf(process(1, assigning(0, 0, 2, not(x)))), "system 0 0 0\nprocess 1\nedge 0 0 1 z:=!x -\n"},
		{systemOf(process(1), process(1, withGuard(plain(0, 0), not(x)))), "system 0 0 0\nprocess 1\nprocess 1\nedge 0 0 !x - -\n"},
	} {
		if got := impl.FormatSystem(c.s); got != c.want {
			t.Errorf("FormatSystem = %q, want %q", got, c.want)
		}
	}
}

// The line of the chapter's example describes the edge that the chapter says.
func TestParseSystemOfTheExample(t *testing.T) {
	s, ok := impl.ParseSystem("system 0 0 0\nprocess 2\nedge 0 1 (x<2) x:=(x+1) !1\n")
	if !ok || len(s.Processes) != 1 || len(s.Processes[0].Edges) != 1 {
		t.Fatalf("ParseSystem = %v, %v", s, ok)
	}
	e := s.Processes[0].Edges[0]
	if e.From != 0 || e.To != 1 || e.Var != 0 || e.Sync != 1 {
		t.Errorf("the edge is %v", e)
	}
	for _, x := range []int{0, 1, 2, 3} {
		guard, _ := impl.EvalExpr(e.Guard, []int{x, 0, 0})
		value, _ := impl.EvalExpr(e.Value, []int{x, 0, 0})
		if (guard != 0) != (x < 2) || value != (x+1)%4 {
			t.Errorf("for x = %d the guard is %d and the value %d", x, guard, value)
		}
	}
	if s, ok := impl.ParseSystem(exampleText); !ok || !equalSystems(s, exampleSystem()) {
		t.Errorf("ParseSystem = %v, %v", s, ok)
	}
}

func TestParseSystemRefuses(t *testing.T) {
	const start, head = "system 0 0 0\n", "system 0 0 0\nprocess 2\n"
	texts := []string{
		"", "\n", " ", "system", "system\n", start, "process 1\n", "process 1\n" + start, "edge 0 0 1 - -\n",
		"system 0 0 0\nprocess 1", "system 0 0 0 process 1\n", exampleText + "\n", "\n" + exampleText,
		strings.TrimSuffix(exampleText, "\n"), exampleText + " ", exampleText + "x", exampleText + "\x00", exampleText + exampleText,
		strings.ReplaceAll(exampleText, "\n", "\r\n"), strings.ReplaceAll(exampleText, "\n", "\n\n"),
		strings.ReplaceAll(exampleText, " ", "  "), strings.ReplaceAll(exampleText, " ", "\t"), strings.ToUpper(exampleText),
		"system 0 0\nprocess 1\n", "system 0 0 0 0\nprocess 1\n", "system  0 0 0\nprocess 1\n", "system 0 0 0 \nprocess 1\n",
		"system 4 0 0\nprocess 1\n", "system 0 -1 0\nprocess 1\n", "system 0 0 10\nprocess 1\n", "system 0 0 x\nprocess 1\n",
		start + "process\n", start + "process \n", start + "process 0\n", start + "process 5\n", start + "process -1\n",
		start + "process 1 \n", start + "process 1 1\n", start + "process  1\n", start + " process 1\n", start + "processes 1\n",
		start + "edge 0 0 1 - -\n", start + "edge 0 0 1 - -\nprocess 1\n", start + start + "process 1\n", head + start,
		head + "edge\n", head + "edge 0 0 1 -\n", head + "edge 0 0 1 - - -\n", head + "edge 0 0 1 - - \n", head + " edge 0 0 1 - -\n",
		head + "edge 2 0 1 - -\n", head + "edge 0 2 1 - -\n", head + "edge -1 0 1 - -\n", head + "edge 0 -1 1 - -\n",
		head + "edge 0 0 4 - -\n", head + "edge 0 0  - -\n", head + "edge 0 0 - - -\n", head + "edge 0 0 (x) - -\n", head + "edge 0 0 x+1 - -\n",
		head + "edge 0 0 1 x -\n", head + "edge 0 0 1 x: -\n", head + "edge 0 0 1 x:= -\n", head + "edge 0 0 1 :=1 -\n", head + "edge 0 0 1 x=1 -\n",
		head + "edge 0 0 1 w:=1 -\n", head + "edge 0 0 1 xy:=1 -\n", head + "edge 0 0 1 yz:=1 -\n", head + "edge 0 0 1 xyz:=1 -\n",
		head + "edge 0 0 1 0:=1 -\n", head + "edge 0 0 1 -1:=1 -\n", head + "edge 0 0 1 -:=1 -\n", head + "edge 0 0 1 x:=y:=1 -\n",
		head + "edge 0 0 1 x:=4 -\n", head + "edge 0 0 1 x:=- -\n", head + "edge 0 0 1 x:= 1 -\n", head + "edge 0 0 1 x := 1 -\n", head + "edge 0 0 1  -\n",
		head + "edge 0 0 1 - !\n", head + "edge 0 0 1 - ?\n", head + "edge 0 0 1 - !0\n", head + "edge 0 0 1 - ?0\n", head + "edge 0 0 1 - 1\n",
		head + "edge 0 0 1 - !3\n", head + "edge 0 0 1 - ?3\n", head + "edge 0 0 1 - !-1\n", head + "edge 0 0 1 - ?-1\n", head + "edge 0 0 1 - !-2\n",
		head + "edge 0 0 1 - -1\n", head + "edge 0 0 1 - --\n", head + "edge 0 0 1 - +1\n", head + "edge 0 0 1 - !x\n", head + "edge 0 0 1 - !!1\n",
		head + "edge 0 0 1 - 0\n", head + "edge 0 0 1 - \n", head + "edge 0 0 1 - !1!\n", head + "edge 0 0 1 - !?1\n", head + "edge 0 0 1 - #1\n",
	}
	for _, number := range []string{"00", "01", "+0", "+1", "-0", "0x1", "1_0", "1.0", "1e0", "\uff11", "", "0 ", "99999999999999999999", "-9223372036854775808"} {
		texts = append(texts,
			"system "+number+" 0 0\nprocess 1\n", "system 0 0 "+number+"\nprocess 1\n", start+"process "+number+"\n",
			head+"edge "+number+" 0 1 - -\n", head+"edge 0 "+number+" 1 - -\n", head+"edge 0 0 "+number+" - -\n",
			head+"edge 0 0 1 x:="+number+" -\n", head+"edge 0 0 1 - !"+number+"\n", head+"edge 0 0 1 - ?"+number+"\n")
	}
	for _, text := range texts {
		if s, ok := impl.ParseSystem(text); ok || !isZeroSystem(s) {
			t.Errorf("ParseSystem(%q) = %v, %v", text, s, ok)
		}
		checkSystemText(t, text)
	}
}

func TestParseSystemLimits(t *testing.T) {
	const start, edge = "system 0 0 0\n", "edge 0 0 1 - -\n"
	deepest, largest := textOf(nots(5, variable(0))), textOf(fullSum(4, variable(0)))
	for _, c := range []struct {
		name, text string
		want       bool
	}{
		{"3 processes", start + strings.Repeat("process 1\n", 3), true},
		{"4 processes", start + strings.Repeat("process 1\n", 4), false},
		{"6 edges", start + "process 1\n" + strings.Repeat(edge, 6), true},
		{"7 edges", start + "process 1\n" + strings.Repeat(edge, 7), false},
		{"7 edges before a process", start + "process 1\n" + strings.Repeat(edge, 7) + "process 1\n", false},
		{"6 edges each", start + strings.Repeat("process 1\n"+strings.Repeat(edge, 6), 3), true},
		{"6 edges each and one", start + strings.Repeat("process 1\n"+strings.Repeat(edge, 6), 3) + edge, false},
		{"6 edges each and a process", start + strings.Repeat("process 1\n"+strings.Repeat(edge, 6), 3) + "process 1\n", false},
		{"4 locations", start + "process 4\nedge 3 3 1 - -\n", true},
		{"5 locations", start + "process 5\nedge 3 3 1 - -\n", false},
		{"location 4", start + "process 4\nedge 3 4 1 - -\n", false},
		{"initial values 3", "system 3 3 3\nprocess 1\n", true},
		{"initial value 4", "system 3 3 4\nprocess 1\n", false},
		{"deepest Guard", start + "process 1\nedge 0 0 " + deepest + " - -\n", true},
		{"Guard too deep", start + "process 1\nedge 0 0 !" + deepest + " - -\n", false},
		{"largest Value", start + "process 1\nedge 0 0 1 x:=" + largest + " -\n", true},
		{"Value too large", start + "process 1\nedge 0 0 1 x:=!" + largest + " -\n", false},
	} {
		if s, ok := impl.ParseSystem(c.text); ok != c.want || !ok && !isZeroSystem(s) {
			t.Errorf("%s: ParseSystem = %v, %v", c.name, s, ok)
		}
		checkSystemText(t, c.text)
	}
}

func TestParseSystemOfHugeTexts(t *testing.T) {
	const n = 1000000
	for _, text := range []string{
		strings.Repeat("\n", n), strings.Repeat(" ", n), strings.Repeat("system 0 0 0\n", n), "system" + strings.Repeat(" 0", n),
		"system 0 0 0\n" + strings.Repeat("process 1\n", n), "system 0 0 0\nprocess " + strings.Repeat("1", n) + "\n",
		"system 0 0 0\nprocess 1\n" + strings.Repeat("edge 0 0 1 - -\n", n), exampleText + strings.Repeat(" ", n),
		"system 0 0 0\nprocess 1\nedge 0 0 " + strings.Repeat("!", n) + "1 - -\n",
		"system 0 0 0\nprocess 1\nedge 0 0 1 " + strings.Repeat("x:=", n) + "1 -\n",
		"system 0 0 0\nprocess 1\nedge 0 0 1 - !" + strings.Repeat("0", n) + "1\n",
	} {
		if s, ok := impl.ParseSystem(text); ok || !isZeroSystem(s) {
			t.Errorf("ParseSystem(%.60q and so on) = %v, %v", text, s, ok)
		}
	}
}

// Promise 2: systems are read back from their texts.
func TestSystemsAreReadBack(t *testing.T) {
	for _, s := range sampleSystems() {
		text := impl.FormatSystem(s)
		if text != systemTextOf(s) {
			t.Errorf("FormatSystem = %q, want %q", text, systemTextOf(s))
		}
		got, ok := impl.ParseSystem(text)
		if !ok || !equalSystems(got, s) || !impl.SystemSame(got, s) {
			t.Errorf("ParseSystem(%q) = %v, %v", text, got, ok)
		}
		checkSystemText(t, text)
	}
}

// Promise 2 the other way: whatever is read is the text of what it is read as,
// here for all texts that differ from that of a system in one place.
func TestParseSystemOfTextsNearby(t *testing.T) {
	const bytes = " \n\t\r\x00\xff-!?:=+<&|()0123456789xyzwedgprocstmX_"
	for _, text := range []string{
		exampleText,
		"system 3 1 2\nprocess 4\nedge 3 2 (!x&(y=z)) z:=!!(z-1) ?2\nedge 0 1 0 - !2\nprocess 1\nprocess 2\n",
	} {
		for i := range len(text) + 1 {
			for _, c := range []byte(bytes) {
				checkSystemText(t, text[:i]+string([]byte{c})+text[i:])
				if i < len(text) {
					checkSystemText(t, text[:i]+string([]byte{c})+text[i+1:])
				}
			}
			for j := i; j <= len(text); j++ {
				checkSystemText(t, text[:i]+text[j:])
				checkSystemText(t, text[i:j])
			}
		}
	}
}

// All texts of up to six of these lines, with and without the last newline.
func TestParseSystemOfAllOrdersOfLines(t *testing.T) {
	lines := []string{"system 1 0 2", "process 1", "process 2", "edge 0 0 1 - -", "edge 1 0 x y:=x !1", ""}
	accepted := 0
	var try func(text string, left int)
	try = func(text string, left int) {
		checkSystemText(t, text)
		checkSystemText(t, strings.TrimSuffix(text, "\n"))
		if isSystemText(text) {
			accepted++
		}
		for i := 0; left > 0 && i < len(lines); i++ {
			try(text+lines[i]+"\n", left-1)
		}
	}
	try("", 6)
	if accepted < 100 {
		t.Errorf("only %d of the texts are those of systems", accepted)
	}
}

func TestSystemVars(t *testing.T) {
	for _, c := range []struct{ lines, read, written string }{
		{"process 1\n", "", ""},
		{"process 1\nedge 0 0 1 - -\n", "", ""},
		{"process 1\nedge 0 0 y - -\n", "y", ""},
		{"process 1\nedge 0 0 1 y:=0 -\n", "", "y"},
		{"process 1\nedge 0 0 1 x:=z -\n", "z", "x"},
		{"process 1\nedge 0 0 (x<y) z:=2 -\n", "xy", "z"},
		{"process 1\nedge 0 0 1 x:=x -\n", "x", "x"},
		{"process 1\nedge 0 0 1 x:=0 -\nedge 0 0 1 y:=1 !1\nedge 0 0 1 z:=2 ?2\n", "", "xyz"},
		{"process 1\nedge 0 0 !!x - -\nprocess 1\nprocess 1\nedge 0 0 1 y:=(z+1) -\n", "xz", "y"},
		// Edges that cannot be taken count as well.
		{"process 2\nedge 1 1 0 y:=z -\n", "z", "y"},
	} {
		s, ok := impl.ParseSystem("system 1 2 3\n" + c.lines)
		read, written := impl.SystemVars(s)
		if !ok || len(read) != 3 || len(written) != 3 {
			t.Fatalf("%q: SystemVars = %v, %v", c.lines, read, written)
		}
		for i := range impl.MaxVars {
			name := "xyz"[i : i+1]
			if read[i] != strings.Contains(c.read, name) || written[i] != strings.Contains(c.written, name) {
				t.Errorf("%q: SystemVars = %v, %v", c.lines, read, written)
			}
		}
	}
}

func TestSystemReach(t *testing.T) {
	for _, c := range []struct {
		p    impl.Process
		want string
	}{
		{process(1), "[true]"},
		{process(4), "[true false false false]"},
		{process(2, plain(0, 1)), "[true true]"},
		{process(2, plain(1, 0)), "[true false]"},
		{process(2, plain(1, 1)), "[true false]"},
		{process(4, plain(0, 1), plain(1, 2), plain(2, 3)), "[true true true true]"},
		{process(4, plain(2, 3), plain(1, 2), plain(0, 1)), "[true true true true]"},
		{process(4, plain(0, 3), plain(2, 1)), "[true false false true]"},
		{process(4, plain(2, 3), plain(3, 2), plain(0, 1), plain(1, 0)), "[true true false false]"},
		{process(3, withGuard(plain(0, 1), constant(0)), withSync(plain(1, 2), -2)), "[true true true]"},
		{process(3, withSync(plain(0, 2), 1), assigning(2, 2, 0, constant(1))), "[true false true]"},
	} {
		if got := fmt.Sprint(impl.SystemReach(systemOf(c.p), 0)); got != c.want {
			t.Errorf("SystemReach with the edges %v = %s, want %s", c.p.Edges, got, c.want)
		}
	}
}

func TestSystemReachOfEachProcess(t *testing.T) {
	s := systemOf(process(2), process(3, plain(0, 2)), process(1))
	for i, want := range []string{"[true false]", "[true false true]", "[true]"} {
		if got := fmt.Sprint(impl.SystemReach(s, i)); got != want {
			t.Errorf("SystemReach of process %d = %s, want %s", i, got, want)
		}
	}
	for _, i := range []int{-1, 3, 4, 1 << 40, -1 << 63} {
		if got := impl.SystemReach(s, i); len(got) != 0 {
			t.Errorf("SystemReach of process %d, which there is not, = %v", i, got)
		}
	}
}

// All sets of up to three different edges, against paths of up to four steps.
func TestSystemReachOfAllSmallProcesses(t *testing.T) {
	const locations = 4
	for code := range 16 * 16 * 16 {
		var edges []impl.Edge
		for _, c := range []int{code % 16, code / 16 % 16, code / 256} {
			edges = append(edges, plain(c/4, c%4))
		}
		var reached [locations]bool
		reached[0] = true
		for range locations {
			next := reached
			for _, e := range edges {
				next[e.To] = next[e.To] || reached[e.From]
			}
			reached = next
		}
		got := impl.SystemReach(systemOf(process(1), process(locations, edges...)), 1)
		if len(got) != locations || [locations]bool(got) != reached {
			t.Fatalf("SystemReach with the edges %v = %v, want %v", edges, got, reached)
		}
	}
}
