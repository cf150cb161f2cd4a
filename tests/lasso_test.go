package tests

import (
	"math"
	"slices"
	"strings"
	"testing"

	"loop.example/ltlcheck/impl"
)

func lassoOf(stem []int, loop ...int) impl.Lasso { return impl.Lasso{Stem: stem, Loop: loop} }

// lassoFrom is the tests' own reading of the text of a lasso.
func lassoFrom(text string) impl.Lasso {
	var l impl.Lasso
	inLoop := false
	for _, c := range strings.TrimSuffix(text, ")") {
		switch {
		case c == '(':
			inLoop = true
		case inLoop:
			l.Loop = append(l.Loop, int(c-'0'))
		default:
			l.Stem = append(l.Stem, int(c-'0'))
		}
	}
	return l
}

func lassoText(l impl.Lasso) string {
	const digits = "01234567"
	var text strings.Builder
	for _, letter := range l.Stem {
		text.WriteByte(digits[letter])
	}
	text.WriteString("(")
	for _, letter := range l.Loop {
		text.WriteByte(digits[letter])
	}
	return text.String() + ")"
}

func equalLassos(a, b impl.Lasso) bool {
	return slices.Equal(a.Stem, b.Stem) && slices.Equal(a.Loop, b.Loop)
}

func isZeroLasso(l impl.Lasso) bool { return len(l.Stem) == 0 && len(l.Loop) == 0 }

// letters writes the first letters of the word of a lasso down, one by one.
func letters(l impl.Lasso, count int) []int {
	list := slices.Clone(l.Stem)
	for len(list) < count {
		list = append(list, l.Loop...)
	}
	return list[:count]
}

// cycling returns a list of the size whose element i is i modulo the number.
func cycling(size int, number int) []int {
	list := make([]int, size)
	for i := range list {
		list[i] = i % number
	}
	return list
}

// marked returns a list of the size that has the letter at the place and the
// other letter everywhere else.
func marked(size int, other int, place int, letter int) []int {
	list := slices.Repeat([]int{other}, size)
	list[place] = letter
	return list
}

// largeLassos returns lassos of sizes up to the limits.
func largeLassos() []impl.Lasso {
	n := &numbers{last: 9}
	mixed := func(size int) []int {
		list := make([]int, size)
		for i := range list {
			list[i] = n.below(8)
		}
		return list
	}
	return []impl.Lasso{
		lassoOf(nil, mixed(80)...), lassoOf(mixed(80), mixed(80)...), lassoOf(mixed(80), 5), lassoOf(mixed(79), mixed(79)...),
		lassoOf(mixed(31), mixed(33)...), lassoOf(mixed(32), mixed(32)...), lassoOf(mixed(64), mixed(64)...), lassoOf(mixed(63), mixed(66)...),
		lassoOf(cycling(80, 2), cycling(80, 2)...), lassoOf(cycling(79, 2), cycling(80, 2)...), lassoOf(cycling(80, 8), cycling(80, 8)...),
		lassoOf(cycling(80, 5), cycling(80, 5)...), lassoOf(cycling(77, 7), cycling(77, 7)...), lassoOf(cycling(80, 7), cycling(80, 7)...),
		lassoOf(cycling(80, 1), cycling(80, 1)...), lassoOf(cycling(80, 1), 0), lassoOf(nil, cycling(80, 1)...),
		lassoOf(marked(80, 7, 0, 0), cycling(80, 4)...), lassoOf(marked(80, 0, 79, 7), cycling(79, 1)...),
		lassoOf(cycling(80, 1), marked(80, 0, 0, 1)...), lassoOf(cycling(80, 1), marked(80, 0, 79, 1)...),
		lassoOf(cycling(80, 1), marked(80, 0, 40, 1)...), lassoOf(nil, marked(80, 1, 79, 2)...),
	}
}

// sampleLassos returns lassos of all small sizes, and larger ones.
func sampleLassos() []impl.Lasso {
	list := largeLassos()
	for _, w := range append(shortWords(), mixedWords(150)...) {
		list = append(list, impl.Lasso{Stem: w.stem, Loop: w.loop})
	}
	for _, text := range []string{
		"02(13)", "01(2121)", "(11)", "21(21)", "7(0)", "(01)", "0(12)", "(0)", "(7)", "7(7)", "77(77)", "121(21)", "2121(2121)", "(12)", "1(21)",
		"0(1001)", "1(010101)", "(001001)", "(010010)", "1001(001001)", "0(000)", "00(001)", "10(0010)", "6(5657)", "567(567567)", "4567(567)",
	} {
		list = append(list, lassoFrom(text))
	}
	return list
}

// invalidLassos has a lasso for each way to miss the definition.
func invalidLassos() map[string]impl.Lasso {
	list := map[string]impl.Lasso{
		"zero value":                {},
		"empty lists":               {Stem: []int{}, Loop: []int{}},
		"stem without a loop":       {Stem: []int{1, 2}},
		"empty loop after a stem":   {Stem: []int{1}, Loop: []int{}},
		"empty part of a loop":      {Stem: []int{1}, Loop: []int{1, 2}[:0]},
		"stem of 81":                lassoOf(cycling(81, 2), 1),
		"stem of 81, loop of 80":    lassoOf(cycling(81, 8), cycling(80, 8)...),
		"loop of 81":                lassoOf(nil, cycling(81, 2)...),
		"loop of 81, repeating":     lassoOf([]int{1}, cycling(81, 3)...),
		"loop of 81, stem of 79":    lassoOf(cycling(79, 8), cycling(81, 8)...),
		"stem and loop of 81":       lassoOf(cycling(81, 8), cycling(81, 8)...),
		"stem of 81 of that letter": lassoOf(cycling(81, 1), 0),
		"stem of a million":         lassoOf(cycling(1000000, 8), 1),
		"loop of a million":         lassoOf([]int{1}, cycling(1000000, 8)...),
		"stem of 160, empty loop":   {Stem: cycling(160, 8)},
	}
	for name, letter := range map[string]int{"-1": -1, "MaxLetter + 1": impl.MaxLetter + 1, "9": 9, "1<<40": 1 << 40, "the least int": math.MinInt, "the largest int": math.MaxInt} {
		list[name+" first in the stem"] = lassoOf([]int{letter, 1, 2}, 3, 4)
		list[name+" inside the stem"] = lassoOf([]int{1, letter, 2}, 3, 4)
		list[name+" last in the stem"] = lassoOf([]int{1, 2, letter}, 3, 4)
		list[name+" as the stem"] = lassoOf([]int{letter}, 0)
		list[name+" first in the loop"] = lassoOf([]int{1, 2}, letter, 3, 4)
		list[name+" inside the loop"] = lassoOf([]int{1, 2}, 3, letter, 4)
		list[name+" last in the loop"] = lassoOf(nil, 3, 4, letter)
		list[name+" as the loop"] = lassoOf([]int{0}, letter)
		list[name+" everywhere"] = lassoOf([]int{letter}, letter)
		list[name+" last in a stem of 80"] = lassoOf(marked(80, 0, 79, letter), 1)
		list[name+" last in a loop of 80"] = lassoOf(nil, marked(80, 0, 79, letter)...)
	}
	return list
}

func TestLassoValidAccepts(t *testing.T) {
	for _, l := range sampleLassos() {
		if !impl.LassoValid(l) {
			t.Errorf("LassoValid(%s) = false", lassoText(l))
		}
	}
	for letter := range impl.MaxLetter + 1 {
		if !impl.LassoValid(lassoOf([]int{letter}, letter)) {
			t.Errorf("the letter %d is not accepted", letter)
		}
	}
	if !impl.LassoValid(lassoOf([]int{}, 1)) || !impl.LassoValid(lassoOf(nil, 1)) {
		t.Error("an empty stem is not accepted")
	}
}

func TestLassoLimitsAreInclusive(t *testing.T) {
	for _, c := range []struct {
		stem, loop int
		want       bool
	}{
		{0, 0, false}, {0, 1, true}, {0, 80, true}, {0, 81, false}, {80, 0, false}, {80, 1, true}, {80, 80, true},
		{80, 81, false}, {81, 0, false}, {81, 1, false}, {81, 80, false}, {81, 81, false}, {79, 79, true}, {1, 80, true}, {1, 81, false},
	} {
		l := lassoOf(cycling(c.stem, 8), cycling(c.loop, 8)...)
		if got := impl.LassoValid(l); got != c.want {
			t.Errorf("a stem of %d and a loop of %d letters: LassoValid = %v", c.stem, c.loop, got)
		}
		text := strings.Repeat("4", c.stem) + "(" + strings.Repeat("2", c.loop) + ")"
		if parsed, ok := impl.ParseLasso(text); ok != c.want || ok && lassoText(parsed) != text || !ok && !isZeroLasso(parsed) {
			t.Errorf("a stem of %d and a loop of %d letters: ParseLasso = %v, %v", c.stem, c.loop, parsed, ok)
		}
	}
}

func TestLassoInvalid(t *testing.T) {
	valid := lassoFrom("02(13)")
	for name, l := range invalidLassos() {
		if impl.LassoValid(l) {
			t.Errorf("%s: LassoValid = true", name)
		}
		for _, i := range []int{0, 1, 2, 100, -1, math.MaxInt, math.MinInt} {
			if letter, ok := impl.LetterAt(l, i); ok || letter != 0 {
				t.Errorf("%s: LetterAt(%d) = %d, %v", name, i, letter, ok)
			}
			if suffix, ok := impl.SuffixAt(l, i); ok || !isZeroLasso(suffix) {
				t.Errorf("%s: SuffixAt(%d) = %v, %v", name, i, suffix, ok)
			}
		}
		for _, f := range []impl.Formula{truth(), formulaOf(impl.FormulaNot, truth()), atom(0), {}} {
			if holds, ok := impl.Satisfies(l, f); ok || holds {
				t.Errorf("%s: Satisfies = %v, %v", name, holds, ok)
			}
		}
		if reduced, ok := impl.ReduceLasso(l); ok || !isZeroLasso(reduced) {
			t.Errorf("%s: ReduceLasso = %v, %v", name, reduced, ok)
		}
		if impl.SameWord(l, l) || impl.SameWord(l, valid) || impl.SameWord(valid, l) {
			t.Errorf("%s: SameWord = true", name)
		}
		if text := impl.FormatLasso(l); text != "" {
			t.Errorf("%s: FormatLasso = %q", name, text)
		}
	}
}

func TestNegativePositions(t *testing.T) {
	for _, l := range sampleLassos() {
		for _, i := range []int{-1, -2, -80, -161, math.MinInt, math.MinInt + 1} {
			if letter, ok := impl.LetterAt(l, i); ok || letter != 0 {
				t.Errorf("LetterAt(%s, %d) = %d, %v", lassoText(l), i, letter, ok)
			}
			if suffix, ok := impl.SuffixAt(l, i); ok || !isZeroLasso(suffix) {
				t.Errorf("SuffixAt(%s, %d) = %v, %v", lassoText(l), i, suffix, ok)
			}
		}
	}
}

func TestLassoSame(t *testing.T) {
	list := sampleLassos()
	for _, l := range invalidLassos() {
		list = append(list, l)
	}
	for _, a := range list {
		for _, b := range list {
			if got := impl.LassoSame(a, b); got != equalLassos(a, b) {
				t.Errorf("LassoSame(%.99v, %.99v) = %v", a, b, got)
			}
		}
		copied := impl.Lasso{Stem: slices.Clone(a.Stem), Loop: slices.Clone(a.Loop)}
		if !impl.LassoSame(a, copied) || !impl.LassoSame(copied, a) {
			t.Errorf("LassoSame(%.99v, %.99v) = false", a, copied)
		}
	}
}

func TestLassoSameOfEachCase(t *testing.T) {
	long := cycling(100000, 9)
	for _, c := range []struct {
		name string
		a, b impl.Lasso
		want bool
	}{
		{"zero values", impl.Lasso{}, impl.Lasso{}, true},
		{"nil and empty", impl.Lasso{}, impl.Lasso{Stem: []int{}, Loop: []int{}}, true},
		{"nil and empty stem", lassoOf(nil, 1), lassoOf([]int{}, 1), true},
		{"the same invalid letters", lassoOf([]int{-1}, 8), lassoOf([]int{-1}, 8), true},
		{"invalid stems", lassoOf([]int{-1}, 1), lassoOf([]int{8}, 1), false},
		{"invalid loops", lassoOf(nil, -1), lassoOf(nil, 8), false},
		{"a longer stem", lassoFrom("1(2)"), lassoFrom("11(2)"), false},
		{"a longer loop", lassoFrom("1(2)"), lassoFrom("1(22)"), false},
		{"last letters of stems", lassoFrom("10(2)"), lassoFrom("11(2)"), false},
		{"last letters of loops", lassoFrom("1(23)"), lassoFrom("1(22)"), false},
		{"stem and loop exchanged", lassoFrom("1(2)"), lassoFrom("2(1)"), false},
		{"letters moved between stem and loop", lassoOf([]int{1, 2}, 3), lassoOf([]int{1}, 2, 3), false},
		{"no loop", impl.Lasso{Stem: []int{1}}, lassoOf(nil, 1), false},
		{"one word, a letter moved", lassoFrom("1(21)"), lassoFrom("(12)"), false},
		{"one word, a loop repeated", lassoFrom("(1)"), lassoFrom("(11)"), false},
		{"long", impl.Lasso{Stem: long, Loop: long}, impl.Lasso{Stem: slices.Clone(long), Loop: long}, true},
		{"long, another end", impl.Lasso{Stem: long, Loop: long}, impl.Lasso{Stem: long, Loop: marked(100000, 0, 0, 0)}, false},
		{"parts of one list", impl.Lasso{Stem: long[:3], Loop: long[3:]}, impl.Lasso{Stem: long[:4], Loop: long[4:]}, false},
	} {
		if impl.LassoSame(c.a, c.b) != c.want || impl.LassoSame(c.b, c.a) != c.want {
			t.Errorf("%s: LassoSame is not %v", c.name, c.want)
		}
	}
}

func TestLetterAt(t *testing.T) {
	for _, c := range []struct {
		text    string
		i, want int
	}{
		{"0(12)", 0, 0}, {"0(12)", 1, 1}, {"0(12)", 2, 2}, {"0(12)", 3, 1}, {"0(12)", 4, 2}, {"02(13)", 1, 2}, {"02(13)", 2, 1}, {"02(13)", 3, 3},
		{"02(13)", 4, 1}, {"(7)", 0, 7}, {"(7)", 1, 7}, {"(7)", 1000000, 7}, {"(0123456)", 7000000, 0}, {"(0123456)", 7000005, 5}, {"66(0123456)", 7000005, 3},
	} {
		if got, ok := impl.LetterAt(lassoFrom(c.text), c.i); !ok || got != c.want {
			t.Errorf("LetterAt(%s, %d) = %d, %v", c.text, c.i, got, ok)
		}
	}
	for _, l := range sampleLassos() {
		for i, want := range letters(l, 500) {
			if got, ok := impl.LetterAt(l, i); !ok || got != want {
				t.Errorf("LetterAt(%s, %d) = %d, %v, want %d", lassoText(l), i, got, ok, want)
			}
		}
	}
}

func TestSuffixAt(t *testing.T) {
	for _, c := range []struct {
		text string
		i    int
		want string
	}{
		{"0(12)", 0, "0(12)"}, {"0(12)", 1, "(12)"}, {"0(12)", 2, "(21)"}, {"0(12)", 3, "(12)"}, {"0(12)", 4, "(21)"},
		{"02(13)", 1, "2(13)"}, {"02(13)", 2, "(13)"}, {"02(13)", 3, "(31)"}, {"(123)", 0, "(123)"}, {"(123)", 1, "(231)"}, {"(123)", 2, "(312)"},
		{"(123)", 3, "(123)"}, {"45(123)", 300003, "(231)"}, {"45(123)", 300001, "(312)"}, {"(7)", 1000000, "(7)"},
		// The suffix is not reduced.
		{"1(1)", 0, "1(1)"}, {"11(11)", 1, "1(11)"}, {"1(22)", 1, "(22)"}, {"21(21)", 1, "1(21)"}, {"(1212)", 1, "(2121)"}, {"(1212)", 2, "(1212)"},
	} {
		if got, ok := impl.SuffixAt(lassoFrom(c.text), c.i); !ok || !equalLassos(got, lassoFrom(c.want)) {
			t.Errorf("SuffixAt(%s, %d) = %v, %v, want %s", c.text, c.i, got, ok, c.want)
		}
	}
	for _, l := range sampleLassos() {
		for i := range len(l.Stem) + 2*len(l.Loop) + 1 {
			want := impl.Lasso{Loop: letters(l, i+len(l.Loop))[i:]}
			if i < len(l.Stem) {
				want = impl.Lasso{Stem: l.Stem[i:], Loop: l.Loop}
			}
			got, ok := impl.SuffixAt(l, i)
			if !ok || !equalLassos(got, want) || !impl.LassoValid(got) {
				t.Fatalf("SuffixAt(%s, %d) = %v, %v, want %s", lassoText(l), i, got, ok, lassoText(want))
			}
			if !slices.Equal(letters(got, 200), letters(l, i+200)[i:]) {
				t.Fatalf("SuffixAt(%s, %d) = %s is not that suffix", lassoText(l), i, lassoText(got))
			}
		}
	}
}

// The positions far beyond the stem go on as those at its end do, up to the
// largest int.
func TestPositionsFarBeyondTheStem(t *testing.T) {
	const most = 200
	for _, l := range sampleLassos() {
		stem, loop := len(l.Stem), len(l.Loop)
		for _, start := range []int{impl.MaxStem, 1000, 1 << 20, math.MaxInt32 - most, math.MaxInt - most} {
			for i := range most + 1 {
				at := start + i
				k := int(uint64(at-stem) % uint64(loop))
				if letter, ok := impl.LetterAt(l, at); !ok || letter != l.Loop[k] {
					t.Fatalf("LetterAt(%s, %d) = %d, %v, want %d", lassoText(l), at, letter, ok, l.Loop[k])
				}
				want := append(slices.Clone(l.Loop[k:]), l.Loop[:k]...)
				if suffix, ok := impl.SuffixAt(l, at); !ok || !equalLassos(suffix, lassoOf(nil, want...)) {
					t.Fatalf("SuffixAt(%s, %d) = %v, %v, want %v", lassoText(l), at, suffix, ok, want)
				}
			}
		}
	}
}

// The largest int is 2 to the power of 63 minus 1, and powers of 2 have simple
// remainders modulo 2, 3, 4, 7 and 8.
func TestTheLargestPosition(t *testing.T) {
	for _, c := range []struct {
		text   string
		letter int
		suffix string
	}{
		{"(01)", 1, "(10)"}, {"(012)", 1, "(120)"}, {"(0123)", 3, "(3012)"}, {"(0123456)", 0, "(0123456)"}, {"(01234567)", 7, "(70123456)"}, {"(5)", 5, "(5)"},
		{"7(01)", 0, "(01)"}, {"7(012)", 0, "(012)"}, {"7(0123)", 2, "(2301)"}, {"7(0123456)", 6, "(6012345)"}, {"7(01234567)", 6, "(67012345)"},
		{"77(01)", 1, "(10)"}, {"77(012)", 2, "(201)"}, {"77(0123)", 1, "(1230)"}, {"77(0123456)", 5, "(5601234)"}, {"77777777(01234567)", 7, "(70123456)"},
	} {
		if got, ok := impl.LetterAt(lassoFrom(c.text), math.MaxInt); !ok || got != c.letter {
			t.Errorf("LetterAt(%s, MaxInt) = %d, %v", c.text, got, ok)
		}
		if got, ok := impl.SuffixAt(lassoFrom(c.text), math.MaxInt); !ok || !equalLassos(got, lassoFrom(c.suffix)) {
			t.Errorf("SuffixAt(%s, MaxInt) = %v, %v", c.text, got, ok)
		}
	}
}

// reducedOf finds the shortest loop that the word can end with and then the
// shortest stem, from the letters alone: the word repeats itself for as long as
// the lasso does.
func reducedOf(l impl.Lasso) impl.Lasso {
	word := letters(l, len(l.Stem)+2*len(l.Loop))
	repeats := func(from, size int) bool { return slices.Equal(word[from+size:], word[from:len(word)-size]) }
	loop := 1
	for len(l.Loop)%loop != 0 || !repeats(len(l.Stem), loop) {
		loop++
	}
	stem := 0
	for !repeats(stem, loop) {
		stem++
	}
	return impl.Lasso{Stem: word[:stem], Loop: word[stem : stem+loop]}
}

func TestReduceLasso(t *testing.T) {
	for _, c := range []struct{ text, want string }{
		{"01(2121)", "0(12)"}, {"(11)", "(1)"}, {"21(21)", "(21)"}, {"7(0)", "7(0)"}, {"02(13)", "02(13)"}, {"(01)", "(01)"}, {"(0)", "(0)"},
		// A loop that is a repetition, of each size of the repeated word.
		{"(1111111)", "(1)"}, {"(121212)", "(12)"}, {"(123123)", "(123)"}, {"(112112)", "(112)"}, {"(121121121)", "(121)"}, {"(12341234)", "(1234)"},
		{"(1222122)", "(1222122)"}, {"(12121)", "(12121)"}, {"(1212121)", "(1212121)"}, {"(11211)", "(11211)"}, {"(1112)", "(1112)"}, {"(2111)", "(2111)"},
		{"(121221)", "(121221)"}, {"(112211)", "(112211)"}, {"(123321)", "(123321)"}, {"(11121112)", "(1112)"}, {"(12112)", "(12112)"},
		// The stem ends with letters of the loop.
		{"1(1)", "(1)"}, {"12(2)", "1(2)"}, {"112(12)", "1(12)"}, {"02(12)", "0(21)"}, {"12(12)", "(12)"}, {"2(12)", "(21)"}, {"1(12)", "1(12)"},
		{"312(12)", "3(12)"}, {"3212(12)", "3(21)"}, {"31(21)", "3(12)"}, {"332(132)", "3(321)"}, {"0123(123)", "0(123)"}, {"023(123)", "0(231)"},
		{"03(123)", "0(312)"}, {"13(123)", "1(312)"}, {"0303(123)", "030(312)"}, {"21(12)", "21(12)"}, {"121(12)", "121(12)"},
		// Both.
		{"012(1212)", "0(12)"}, {"02(1212)", "0(21)"}, {"2(1212)", "(21)"}, {"01212(1212)", "0(12)"}, {"022(22)", "0(2)"}, {"10(00)", "1(0)"},
		{"3212(121212)", "3(21)"}, {"23(123123)", "(231)"},
		// The whole stem is taken into the loop, also if it is longer.
		{"2121(21)", "(21)"}, {"1212(12)", "(12)"}, {"212(12)", "(21)"}, {"12312312(312)", "(123)"}, {"7777(7)", "(7)"}, {"3123123(123)", "(312)"},
		{"21212(1212)", "(21)"}, {"12(1212)", "(12)"}, {"00000(0000000)", "(0)"},
	} {
		got, ok := impl.ReduceLasso(lassoFrom(c.text))
		if !ok || !equalLassos(got, lassoFrom(c.want)) {
			t.Errorf("ReduceLasso(%s) = %v, %v, want %s", c.text, got, ok, c.want)
		}
	}
	for _, l := range sampleLassos() {
		got, ok := impl.ReduceLasso(l)
		if want := reducedOf(l); !ok || !equalLassos(got, want) {
			t.Errorf("ReduceLasso(%s) = %v, %v, want %s", lassoText(l), got, ok, lassoText(want))
		}
		again, ok := impl.ReduceLasso(got)
		if !ok || !equalLassos(again, got) || !slices.Equal(letters(got, 400), letters(l, 400)) {
			t.Errorf("ReduceLasso(%s) = %s is another word or can be reduced", lassoText(l), lassoText(got))
		}
	}
}

// otherLassos returns lassos of the same word: the loop is written several
// times, and letters of the loop are moved to the stem.
func otherLassos(l impl.Lasso, most int) []impl.Lasso {
	var list []impl.Lasso
	stem, loop := len(l.Stem), len(l.Loop)
	for times := 1; times <= most && times*loop <= impl.MaxLoop; times++ {
		for moved := 0; moved <= most && stem+moved <= impl.MaxStem; moved++ {
			word := letters(l, stem+moved+times*loop)
			list = append(list, impl.Lasso{Stem: word[:stem+moved], Loop: word[stem+moved:]})
		}
	}
	return list
}

func TestReduceLassoOfTheSameWord(t *testing.T) {
	for _, l := range sampleLassos() {
		want, _ := impl.ReduceLasso(l)
		for _, other := range otherLassos(l, 7) {
			if got, ok := impl.ReduceLasso(other); !ok || !equalLassos(got, want) {
				t.Errorf("ReduceLasso(%s) = %v, %v, want %s", lassoText(other), got, ok, lassoText(want))
			}
			if !impl.SameWord(l, other) || !impl.SameWord(other, l) || !impl.SameWord(other, want) {
				t.Errorf("SameWord(%s, %s) = false", lassoText(l), lassoText(other))
			}
		}
	}
}

// describeSameWord compares the letters until both loops are again where they
// were at the end of the longer stem.
func describeSameWord(a, b impl.Lasso) bool {
	count := max(len(a.Stem), len(b.Stem)) + len(a.Loop)*len(b.Loop)
	return slices.Equal(letters(a, count), letters(b, count))
}

func TestSameWord(t *testing.T) {
	for _, c := range []struct {
		a, b string
		want bool
	}{
		{"01(2121)", "0(12)", true}, {"(1)", "1(11)", true}, {"(12)", "1(21)", true}, {"(12)", "(21)", false}, {"(12)", "(1212)", true},
		{"(112)", "(1121)", false}, {"1(2)", "(12)", false}, {"1(2)", "(2)", false}, {"1(2)", "12(22)", true}, {"(1)", "(2)", false},
		{"02(13)", "02(13)", true}, {"02(13)", "021(31)", true}, {"02(13)", "02(31)", false}, {"02(13)", "02(1313)", true}, {"02(13)", "02(133)", false},
		{"(121212)", "12(1212)", true}, {"(123123)", "1(231231)", true}, {"2(12)", "21(21)", true}, {"2(12)", "(21)", true}, {"7(0)", "(70)", false},
		{"(111112)", "(11112)", false}, {"0(0)", "(0000000)", true}, {"00(01)", "0(00100)", false}, {"0000(1)", "000(1)", false},
	} {
		a, b := lassoFrom(c.a), lassoFrom(c.b)
		if impl.SameWord(a, b) != c.want || impl.SameWord(b, a) != c.want || describeSameWord(a, b) != c.want {
			t.Errorf("SameWord(%s, %s) is not %v", c.a, c.b, c.want)
		}
	}
	list := sampleLassos()
	for _, l := range append(list[:0:0], list...) {
		other := otherLassos(l, 3)
		list = append(list, other[len(other)-1])
	}
	same := 0
	for _, a := range list {
		for _, b := range list {
			want := describeSameWord(a, b)
			same += bit(want)
			if got := impl.SameWord(a, b); got != want {
				t.Errorf("SameWord(%s, %s) = %v", lassoText(a), lassoText(b), got)
			}
		}
	}
	if same < 2*len(list) {
		t.Errorf("only %d pairs are the same word", same)
	}
}

// The words differ in a single letter, the last one before both repeat.
func TestSameWordOfLargeLassos(t *testing.T) {
	for _, c := range []struct{ a, b impl.Lasso }{
		{lassoOf(cycling(80, 1), marked(80, 0, 79, 1)...), lassoOf(cycling(80, 1), 0)},
		{lassoOf(cycling(80, 1), marked(80, 0, 79, 1)...), lassoOf(cycling(80, 1), marked(80, 0, 78, 1)...)},
		{lassoOf(cycling(80, 1), marked(80, 0, 79, 1)...), lassoOf(cycling(79, 1), marked(80, 0, 79, 1)...)},
		{lassoOf(marked(80, 0, 79, 1), 0), lassoOf(marked(80, 0, 78, 1), 0)},
		{lassoOf(marked(80, 0, 0, 1), 0), lassoOf(marked(79, 0, 0, 1), 0, 0)},
		{lassoOf(nil, marked(80, 0, 79, 1)...), lassoOf(nil, marked(79, 0, 78, 1)...)},
		{lassoOf(nil, marked(80, 0, 0, 1)...), lassoOf(nil, marked(40, 0, 0, 1)...)},
	} {
		want := describeSameWord(c.a, c.b)
		if impl.SameWord(c.a, c.b) != want || impl.SameWord(c.b, c.a) != want {
			t.Errorf("SameWord(%s, %s) is not %v", lassoText(c.a), lassoText(c.b), want)
		}
	}
}
