package tests

import (
	"regexp"
	"strings"
	"testing"

	"loop.example/ltlcheck/impl"
)

var lassoPattern = regexp.MustCompile(`^[0-7]{0,80}\([0-7]{1,80}\)$`)

// checkLassoText checks that a text is read exactly if it is the text of a
// lasso, and then as that lasso.
func checkLassoText(t *testing.T, text string) {
	t.Helper()
	l, ok := impl.ParseLasso(text)
	if ok != lassoPattern.MatchString(text) || !ok && !isZeroLasso(l) {
		t.Fatalf("ParseLasso(%.200q) = %v, %v", text, l, ok)
	}
	if ok && (!equalLassos(l, lassoFrom(text)) || lassoText(l) != text || impl.FormatLasso(l) != text) {
		t.Fatalf("ParseLasso(%.200q) = %v", text, l)
	}
}

func TestFormatLasso(t *testing.T) {
	for _, c := range []struct {
		l    impl.Lasso
		want string
	}{
		{lassoOf(nil, 0), "(0)"}, {lassoOf([]int{}, 7), "(7)"}, {lassoOf([]int{0, 2}, 1, 3), "02(13)"}, {lassoOf([]int{0, 1}, 2, 1, 2, 1), "01(2121)"},
		{lassoOf([]int{7}, 0), "7(0)"}, {lassoOf([]int{0, 1, 2, 3, 4, 5, 6, 7}, 7, 6, 5, 4, 3, 2, 1, 0), "01234567(76543210)"},
		{lassoOf(cycling(80, 1), cycling(80, 1)...), strings.Repeat("0", 80) + "(" + strings.Repeat("0", 80) + ")"},
	} {
		if got := impl.FormatLasso(c.l); got != c.want {
			t.Errorf("FormatLasso(%v) = %q, want %q", c.l, got, c.want)
		}
	}
}

func TestLassosAreReadBack(t *testing.T) {
	for _, l := range sampleLassos() {
		text := impl.FormatLasso(l)
		if text != lassoText(l) {
			t.Errorf("FormatLasso(%v) = %q", l, text)
		}
		if got, ok := impl.ParseLasso(text); !ok || !equalLassos(got, l) {
			t.Errorf("ParseLasso(%q) = %v, %v", text, got, ok)
		}
	}
}

func TestParseLassoRefuses(t *testing.T) {
	for _, text := range []string{
		"", "(", ")", "()", "1", "0", "12", "1()", "12()", "()1", "()()", "(1", "1)", "1(", "1(2", "1(2))", "((1)", "((1))", "(1)(2)", "1((2)", "(1()", "1(2)(",
		")1(", "1)2(", "(1)2", "(1)2)", "1(2)3", "1(2)3(4)", "(1))", ")(1)", "1)(2)", "1(2)1", "(1)(", "(1)0", "(12", "12(", "(12)3(45)", "1(2(3))", "(1(2)3)",
		"(8)", "(9)", "8(1)", "9(1)", "1(28)", "18(2)", "81(2)", "(82)", "10(8)", "(-1)", "-1(2)", "1(-2)", "(+1)", "+1(2)", "(1,2)", "1,2(3)", "(0x1)", "(a)", "a(1)", "(1a)", "(p)", "(T)",
		" ", " (1)", "(1) ", "( 1)", "(1 )", "1 (2)", "1( 2)", "1 2(3)", "(1 2)", "( )", " 1(2)", "1(2) ", "\t(1)", "(1)\n", "\n(1)", "(1\n)", "1\n(2)", "(1)\x00", "\x00(1)", "(\x00)", "(1\x00)",
		"[1]", "{1}", "<1>", "1[2]", "(1]", "[1)", "1(2]", "/(1)", "(/)", ":(1)", "(:)", "(\xff)", "\xff(1)", "(1)\xff", "(１)", "(①)", "(٣)", "(1…)", "(1)^ω", "(1)*",
		strings.Repeat("1", 81) + "(1)", "(" + strings.Repeat("1", 81) + ")", "1(" + strings.Repeat("10", 41) + ")", strings.Repeat("1", 81) + "(" + strings.Repeat("1", 79) + ")",
		strings.Repeat("1", 79) + "(" + strings.Repeat("1", 81) + ")", strings.Repeat("1", 81) + "(" + strings.Repeat("1", 81) + ")", strings.Repeat("1", 161) + "(1)", strings.Repeat("0", 81) + "(0)",
		strings.Repeat("1", 10000000), strings.Repeat("1", 10000000) + "(1)", "(" + strings.Repeat("1", 10000000) + ")", strings.Repeat("(", 10000000), "(1)" + strings.Repeat(" ", 10000000),
		strings.Repeat(")", 10000000), "(1)" + strings.Repeat(")", 10000000), strings.Repeat("(1)", 1000000), "(1)" + strings.Repeat("1", 157), strings.Repeat("1", 80) + "(" + strings.Repeat("1", 80) + "))",
	} {
		if l, ok := impl.ParseLasso(text); ok || !isZeroLasso(l) {
			t.Errorf("ParseLasso(%.60q) = %v, %v", text, l, ok)
		}
	}
}

// Every text of up to six of these bytes.
func TestParseLassoOfAllShortTexts(t *testing.T) {
	const most, alphabet = 6, "017(8) "
	var try func(text string)
	try = func(text string) {
		checkLassoText(t, text)
		for i := 0; len(text) < most && i < len(alphabet); i++ {
			try(text + alphabet[i:i+1])
		}
	}
	try("")
}

func TestParseLassoOfEachByte(t *testing.T) {
	for c := range 256 {
		b := string([]byte{byte(c)})
		for _, text := range []string{b, b + "(1)", "(" + b + ")", "1" + b + "2)", "(1" + b, "(1)" + b, "1" + b + "(2)", "(1" + b + "2)", b + "1)"} {
			checkLassoText(t, text)
		}
	}
}

// Texts of lassos with one byte changed, left out or put in.
func TestParseLassoOfChangedTexts(t *testing.T) {
	texts := []string{"(0)", "7(7)", "02(13)", "01(2121)"}
	for _, l := range largeLassos() {
		texts = append(texts, lassoText(l))
	}
	for _, text := range texts {
		for i := range len(text) + 1 {
			for _, c := range []string{"0", "7", "8", "(", ")", " ", "\xff"} {
				checkLassoText(t, text[:i]+c+text[i:])
				if i < len(text) {
					checkLassoText(t, text[:i]+c+text[i+1:])
				}
			}
			if i < len(text) {
				checkLassoText(t, text[:i]+text[i+1:])
				checkLassoText(t, text[:i])
				checkLassoText(t, text[i:])
			}
		}
	}
}
