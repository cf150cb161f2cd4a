package tests

import (
	"regexp"
	"strconv"
	"strings"
	"testing"

	"loop.example/ltlcheck/impl"
)

var automatonPattern = regexp.MustCompile(`^automaton ([1-9][0-9]?)\n` +
	`initial((?: (?:0|[1-9][0-9]?))*)\n` +
	`accepting((?: (?:0|[1-9][0-9]?))*)\n` +
	`((?:edge (?:0|[1-9][0-9]?) [0-7] [0-7] (?:0|[1-9][0-9]?)\n)*)$`)

// isAutomatonText says whether text is the text of a valid automaton: by a
// pattern, and for the limits and the order, which a pattern cannot tell, by
// looking at each number.
func isAutomatonText(text string) bool {
	parts := automatonPattern.FindStringSubmatch(text)
	if parts == nil {
		return false
	}
	states, _ := strconv.Atoi(parts[1])
	below := func(field string) bool {
		n, _ := strconv.Atoi(field)
		return n < states
	}
	for _, list := range parts[2:4] {
		before := -1
		for _, field := range strings.Fields(list) {
			n, _ := strconv.Atoi(field)
			if n <= before || !below(field) {
				return false
			}
			before = n
		}
	}
	for line := range strings.Lines(parts[4]) {
		fields := strings.Fields(line)
		care, _ := strconv.Atoi(fields[2])
		value, _ := strconv.Atoi(fields[3])
		if !below(fields[1]) || !below(fields[4]) || care|value != care {
			return false
		}
	}
	return states <= 64 && strings.Count(parts[4], "\n") <= 2048
}

// checkAutomatonText checks everything that ParseAutomaton has to do with a text.
func checkAutomatonText(t *testing.T, text string) {
	t.Helper()
	a, ok := impl.ParseAutomaton(text)
	if ok != isAutomatonText(text) {
		t.Fatalf("ParseAutomaton(%.200q) = %v", text, ok)
	}
	if !ok && !isZeroAutomaton(a) {
		t.Fatalf("ParseAutomaton(%.200q) returns %v together with false", text, a)
	}
	if ok && (!impl.AutomatonValid(a) || automatonText(a) != text || impl.FormatAutomaton(a) != text) {
		t.Fatalf("ParseAutomaton(%.200q) = %v, whose text is %.200q", text, a, impl.FormatAutomaton(a))
	}
}

func TestFormatAutomaton(t *testing.T) {
	for _, c := range []struct{ short, want string }{
		{"1||", "automaton 1\ninitial\naccepting\n"},
		{"1|0|", "automaton 1\ninitial 0\naccepting\n"},
		{"1||0", "automaton 1\ninitial\naccepting 0\n"},
		{"1|0|0|0 0 0 0", "automaton 1\ninitial 0\naccepting 0\nedge 0 0 0 0\n"},
		{"2|0|1|0 1 1 1|1 0 0 1", "automaton 2\ninitial 0\naccepting 1\nedge 0 1 1 1\nedge 1 0 0 1\n"},
		{"3|0 2|1|0 3 1 1|1 7 0 2|2 4 4 0", "automaton 3\ninitial 0 2\naccepting 1\nedge 0 3 1 1\nedge 1 7 0 2\nedge 2 4 4 0\n"},
		// The edges stay in their order, and an edge may be there twice.
		{"3|1|0 2|2 5 4 0|0 6 6 2|2 5 4 0|1 7 7 1", "automaton 3\ninitial 1\naccepting 0 2\nedge 2 5 4 0\nedge 0 6 6 2\nedge 2 5 4 0\nedge 1 7 7 1\n"},
		{"64|0 9 10 63|1 63|63 7 5 10|10 2 0 63", "automaton 64\ninitial 0 9 10 63\naccepting 1 63\nedge 63 7 5 10\nedge 10 2 0 63\n"},
	} {
		if got := impl.FormatAutomaton(automatonOf(c.short)); got != c.want {
			t.Errorf("FormatAutomaton of %s = %q, want %q", c.short, got, c.want)
		}
		checkAutomatonText(t, c.want)
	}
}

func TestAutomataAreReadBack(t *testing.T) {
	for _, a := range sampleAutomata() {
		text := impl.FormatAutomaton(a)
		if text != automatonText(a) {
			t.Errorf("FormatAutomaton = %q, want %q", text, automatonText(a))
		}
		if got, ok := impl.ParseAutomaton(text); !ok || !equalAutomata(got, a) {
			t.Errorf("ParseAutomaton(%.200q) = %v, %v", text, got, ok)
		}
		checkAutomatonText(t, text)
	}
}

func TestParseAutomatonRefuses(t *testing.T) {
	const example = "automaton 3\ninitial 0 2\naccepting 1\nedge 0 3 1 1\nedge 1 7 0 2\n"
	const head = "automaton 3\ninitial 0 2\naccepting 0 1\n"
	texts := []string{
		"", "\n", " ", "automaton", "automaton\n", "automaton 1", "automaton 1\n", "automaton 1\ninitial\n", "automaton 1\naccepting\n", "automaton 1\ninitial\naccepting",
		"initial\naccepting\n", "initial 0\n", "accepting\n", "edge 0 0 0 0\n", "automaton 1\naccepting\ninitial\n", "initial\nautomaton 1\naccepting\n", "accepting\ninitial\nautomaton 1\n",
		"automaton 1\nedge 0 0 0 0\ninitial\naccepting\n", "automaton 1\ninitial\nedge 0 0 0 0\naccepting\n", "edge 0 0 0 0\nautomaton 1\ninitial\naccepting\n",
		"automaton 1\ninitial\naccepting\nedge 0 1 2 0\n", "automaton 1\ninitial 1\naccepting\n", "automaton 1\ninitial\naccepting 1\n", "automaton 1\ninitial -1\naccepting\n",
		"automaton 1\ninitial\ninitial\naccepting\n", "automaton 1\nautomaton 1\ninitial\naccepting\n", "automaton 1\ninitial\naccepting\naccepting\n",
		"automaton\ninitial\naccepting\n", "automaton \ninitial\naccepting\n", "automaton 1 1\ninitial\naccepting\n", "automaton 0\ninitial\naccepting\n", "automaton 65\ninitial\naccepting\n",
		"automaton -1\ninitial\naccepting\n", "automaton 1000000000000\ninitial\naccepting\n", "automaton 9223372036854775807\ninitial 0\naccepting 0\n", "automata 1\ninitial\naccepting\n",
		"Automaton 1\ninitial\naccepting\n", "automaton1\ninitial\naccepting\n", "automaton 1\ninitials\naccepting\n", "automaton 1\ninitial\naccept\n", "automaton 1\ninitial0\naccepting\n",
		"automaton 1 \ninitial\naccepting\n", "automaton 1\ninitial \naccepting\n", "automaton 1\ninitial\naccepting \n", " automaton 1\ninitial\naccepting\n", "automaton  1\ninitial\naccepting\n",
		"automaton 1\n initial\naccepting\n", "automaton 1\ninitial\n accepting\n", "automaton 1\ninitial  0\naccepting\n", "automaton 1\ninitial 0 \naccepting\n", "automaton 1\ninitial\naccepting  0\n",
		"automaton 3\ninitial 0  2\naccepting\n", "automaton 3\ninitial 0 2\naccepting 0 \n", "automaton 1\ninitial\naccepting\n ", "automaton 1\ninitial\naccepting\n\x00", "automaton 1,initial,accepting\n",
		"automaton 3\ninitial 2 0\naccepting\n", "automaton 3\ninitial 0 0\naccepting\n", "automaton 3\ninitial 0 2 1\naccepting\n", "automaton 3\ninitial 0 1 2 3\naccepting\n", "automaton 3\ninitial 0 1 2 2\naccepting\n",
		"automaton 3\ninitial\naccepting 2 0\n", "automaton 3\ninitial\naccepting 0 0\n", "automaton 3\ninitial\naccepting 0 2 1\n", "automaton 3\ninitial\naccepting 0 1 2 3\n", "automaton 3\ninitial\naccepting 3\n",
		head + "edge\n", head + "edge 0\n", head + "edge 0 0 0\n", head + "edge 0 0 0 0 0\n", head + "edge 0 0 0 0", head + "edge 0 0 0 0 \n", head + "edge  0 0 0 0\n", head + "edge 0 0  0 0\n", head + " edge 0 0 0 0\n",
		head + "edges 0 0 0 0\n", head + "edge 3 0 0 0\n", head + "edge 0 0 0 3\n", head + "edge -1 0 0 0\n", head + "edge 0 0 0 -1\n", head + "edge 0 8 0 0\n", head + "edge 0 8 8 0\n", head + "edge 0 -1 0 0\n",
		head + "edge 0 -1 -1 0\n", head + "edge 0 7 8 0\n", head + "edge 0 7 -1 0\n", head + "edge 0 0 1 0\n", head + "edge 0 4 3 0\n", head + "edge 0 6 7 0\n", head + "edge 0 x 0 0\n", head + "edge p 0 0 0\n",
		head + "edge 0 0 0 0\n\n", head + "\nedge 0 0 0 0\n", head + "edge 0 0 0 0\nedge 0 0 0\n", head + "edge 0 0 0 0\nedge 0 0 0 3\n", head + "edge 0 0 0 0\ninitial 0\n", head + "edge 0 0 0 0 edge 0 0 0 0\n",
		example + "\n", "\n" + example, strings.TrimSuffix(example, "\n"), example + " ", example + "x", example + "\x00", example + example, strings.ToUpper(example), example[1:],
		strings.ReplaceAll(example, "\n", "\r\n"), strings.ReplaceAll(example, "\n", "\n\n"), strings.ReplaceAll(example, " ", "  "), strings.ReplaceAll(example, " ", "\t"), strings.ReplaceAll(example, "\n", " \n"),
	}
	for _, number := range []string{"00", "01", "+0", "+1", "-0", "-1", "0x1", "1_0", "1.0", "1e0", "\uff11", "", "0 ", "x", "p", "99999999999999999999", "-9223372036854775808", "18446744073709551616", "4294967296"} {
		texts = append(texts,
			"automaton "+number+"\ninitial 0\naccepting 0\n", "automaton 2\ninitial "+number+"\naccepting 0\n", "automaton 2\ninitial 0 "+number+"\naccepting 0\n", "automaton 2\ninitial 0\naccepting "+number+"\n",
			"automaton 2\ninitial 0\naccepting 0 "+number+"\n", head+"edge "+number+" 0 0 0\n", head+"edge 0 "+number+" 0 0\n", head+"edge 0 7 "+number+" 0\n", head+"edge 0 0 0 "+number+"\n")
	}
	for _, text := range texts {
		checkAutomatonText(t, text)
		if a, ok := impl.ParseAutomaton(text); ok || !isZeroAutomaton(a) {
			t.Errorf("ParseAutomaton(%q) = %v, %v", text, a, ok)
		}
	}
}

func TestParseAutomatonLimits(t *testing.T) {
	numbers := func(from, to int) string {
		text := ""
		for i := from; i < to; i++ {
			text += " " + strconv.Itoa(i)
		}
		return text + "\n"
	}
	const head, edge = "automaton 64\ninitial 0\naccepting 63\n", "edge 63 7 7 63\n"
	for _, c := range []struct {
		name, text string
		want       bool
	}{
		{"64 states", "automaton 64\ninitial\naccepting\n", true},
		{"65 states", "automaton 65\ninitial\naccepting\n", false},
		{"all of 64 states", "automaton 64\ninitial" + numbers(0, 64) + "accepting" + numbers(0, 64), true},
		{"initial states up to 64", "automaton 64\ninitial" + numbers(0, 65) + "accepting" + numbers(0, 64), false},
		{"initial state 64", "automaton 64\ninitial 64\naccepting\n", false},
		{"accepting states up to 64", "automaton 64\ninitial" + numbers(0, 64) + "accepting" + numbers(0, 65), false},
		{"accepting state 64", "automaton 64\ninitial\naccepting 64\n", false},
		{"all of 65 states", "automaton 65\ninitial" + numbers(0, 65) + "accepting" + numbers(0, 65), false},
		{"2048 edges", head + strings.Repeat(edge, 2048), true},
		{"2049 edges", head + strings.Repeat(edge, 2049), false},
		{"4096 edges", head + strings.Repeat(edge, 4096), false},
		{"2048 edges and an empty line", head + strings.Repeat(edge, 2048) + "\n", false},
		{"2047 edges and an incomplete one", head + strings.Repeat(edge, 2047) + "edge 63 7 7\n", false},
		{"2047 edges and an invalid one", head + strings.Repeat(edge, 2047) + "edge 63 7 7 64\n", false},
		{"2048 edges of which the last has no newline", head + strings.TrimSuffix(strings.Repeat(edge, 2048), "\n"), false},
	} {
		if a, ok := impl.ParseAutomaton(c.text); ok != c.want || !ok && !isZeroAutomaton(a) {
			t.Errorf("%s: ParseAutomaton = %v", c.name, ok)
		}
		checkAutomatonText(t, c.text)
	}
}

func TestParseAutomatonOfHugeTexts(t *testing.T) {
	const n = 1000000
	const head = "automaton 2\ninitial 0\naccepting 1\n"
	for _, text := range []string{
		strings.Repeat("\n", n), strings.Repeat(" ", n), strings.Repeat("automaton 1\n", n), "automaton " + strings.Repeat("1", n) + "\ninitial\naccepting\n",
		"automaton 1" + strings.Repeat(" 1", n) + "\ninitial\naccepting\n", "automaton 2\ninitial" + strings.Repeat(" 0", n) + "\naccepting\n", "automaton 2\ninitial" + strings.Repeat(" ", n) + "\naccepting\n",
		"automaton 2\ninitial\naccepting" + strings.Repeat(" 0", n) + "\n", "automaton 2\n" + strings.Repeat("initial\n", n), head + strings.Repeat("edge 0 0 0 0\n", n), head + strings.Repeat("edge 0 0 0 0 ", n) + "\n",
		head + strings.Repeat(" ", n), head + "edge 0 0 0 " + strings.Repeat("0", n) + "\n", head + "edge" + strings.Repeat(" 0", n) + "\n", head + strings.Repeat("\n", n),
	} {
		if a, ok := impl.ParseAutomaton(text); ok || !isZeroAutomaton(a) {
			t.Errorf("ParseAutomaton(%.60q and so on) = %v, %v", text, a, ok)
		}
	}
}

// Texts that differ from that of an automaton in one place.
func TestParseAutomatonOfTextsNearby(t *testing.T) {
	const bytes = " \n\t\r\x00\xff-+.,0123456789autominlcepgdAx_"
	for _, text := range []string{
		"automaton 1\ninitial\naccepting\n",
		"automaton 3\ninitial 0 2\naccepting 1\nedge 0 3 1 1\nedge 1 7 0 2\nedge 2 4 4 0\n",
		"automaton 64\ninitial 0 10 63\naccepting 1 2\nedge 63 0 0 10\n",
	} {
		for i := range len(text) + 1 {
			for _, c := range []byte(bytes) {
				checkAutomatonText(t, text[:i]+string([]byte{c})+text[i:])
				if i < len(text) {
					checkAutomatonText(t, text[:i]+string([]byte{c})+text[i+1:])
				}
			}
			for j := i; j <= len(text); j++ {
				checkAutomatonText(t, text[:i]+text[j:])
				checkAutomatonText(t, text[i:j])
			}
		}
	}
}

// All texts of up to six of these lines, with and without the last newline.
func TestParseAutomatonOfAllOrdersOfLines(t *testing.T) {
	lines := []string{"automaton 1", "automaton 2", "initial", "initial 1", "accepting", "accepting 0 1", "edge 0 3 2 0", "edge 1 0 0 0"}
	accepted := 0
	var try func(text string, left int)
	try = func(text string, left int) {
		checkAutomatonText(t, text)
		checkAutomatonText(t, strings.TrimSuffix(text, "\n"))
		accepted += bit(isAutomatonText(text))
		for i := 0; left > 0 && i < len(lines); i++ {
			try(text+lines[i]+"\n", left-1)
		}
	}
	try("", 6)
	if accepted < 40 {
		t.Errorf("only %d of the texts are those of automata", accepted)
	}
}
