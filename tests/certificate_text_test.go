package tests

import (
	"math"
	"regexp"
	"slices"
	"strconv"
	"strings"
	"testing"

	"loop.example/ltlcheck/impl"
)

var certificatePattern = regexp.MustCompile(`^ranks( (-|0|[1-9][0-9]{0,2}|[1-3][0-9]{3}|4000))*$`)

// certificateText returns the text of a certificate that has one.
func certificateText(c impl.Certificate) string {
	text := "ranks"
	for _, rank := range c.Ranks {
		if rank == -1 {
			text += " -"
		} else {
			text += " " + strconv.Itoa(rank)
		}
	}
	return text
}

// checkCertificateText checks that a text is read exactly if it is the text of a
// certificate, and then as that certificate.
func checkCertificateText(t *testing.T, text string) {
	t.Helper()
	c, ok := impl.ParseCertificate(text)
	if want := certificatePattern.MatchString(text) && strings.Count(text, " ") <= 4000; ok != want || !ok && !isZeroCertificate(c) {
		t.Fatalf("ParseCertificate(%.200q) = %.200v, %v", text, c, ok)
	}
	if ok && (!slices.Equal(c.Ranks, ranksFrom(text[len("ranks"):])) || certificateText(c) != text || impl.FormatCertificate(c) != text) {
		t.Fatalf("ParseCertificate(%.200q) = %.200v", text, c)
	}
}

func TestFormatCertificate(t *testing.T) {
	for _, c := range []struct {
		ranks []int
		want  string
	}{
		{nil, "ranks"}, {[]int{}, "ranks"}, {[]int{0}, "ranks 0"}, {[]int{-1}, "ranks -"}, {[]int{-1, -1}, "ranks - -"}, {[]int{1, 0, 0}, "ranks 1 0 0"}, {[]int{1, -1, 0, -1}, "ranks 1 - 0 -"}, {[]int{-1, 12, 345}, "ranks - 12 345"}, {[]int{10, 100, 1000}, "ranks 10 100 1000"},
		{[]int{4000}, "ranks 4000"}, {[]int{3999, 4000, -1}, "ranks 3999 4000 -"}, {ascendingList(12), "ranks 0 1 2 3 4 5 6 7 8 9 10 11"}, {make([]int, 4000), "ranks" + strings.Repeat(" 0", 4000)}, {slices.Repeat([]int{-1}, 4000), "ranks" + strings.Repeat(" -", 4000)}, {slices.Repeat([]int{4000}, 4000), "ranks" + strings.Repeat(" 4000", 4000)},
		// Elements that are no ranks, and too many of them.
		{[]int{-2}, ""}, {[]int{4001}, ""}, {[]int{0, -2}, ""}, {[]int{-2, 0}, ""}, {[]int{0, 4001}, ""}, {[]int{4001, 0}, ""}, {[]int{-1, -2, -1}, ""}, {[]int{4000, 4001, 4000}, ""}, {[]int{-4000}, ""}, {[]int{math.MinInt}, ""}, {[]int{math.MaxInt}, ""}, {[]int{3, 1 << 40}, ""}, {[]int{3, 1<<32 + 1}, ""}, {append(make([]int, 3999), 4001), ""}, {append(make([]int, 3999), -2), ""},
		{make([]int, 4001), ""}, {slices.Repeat([]int{-1}, 4001), ""}, {slices.Repeat([]int{4000}, 4001), ""}, {make([]int, 10000000), ""}, {slices.Repeat([]int{-2}, 4001), ""},
	} {
		if got := impl.FormatCertificate(impl.Certificate{Ranks: c.ranks}); got != c.want {
			t.Errorf("FormatCertificate(%.100v) = %.100q, want %.100q", c.ranks, got, c.want)
		}
		if len(c.want) > 0 {
			checkCertificateText(t, c.want)
		}
	}
}

// All lists of up to three elements, around the bounds of a rank.
func TestFormatCertificateOfShortLists(t *testing.T) {
	elements := []int{-3, -2, -1, 0, 1, 9, 10, 3999, 4000, 4001}
	for size := range 4 {
		for _, places := range rankLists(size, 0, len(elements)-1) {
			var ranks []int
			for _, place := range places {
				ranks = append(ranks, elements[place])
			}
			c := impl.Certificate{Ranks: ranks}
			want := certificateText(c)
			if size > 0 && (slices.Min(ranks) < -1 || slices.Max(ranks) > 4000) {
				want = ""
			}
			if got := impl.FormatCertificate(c); got != want {
				t.Errorf("FormatCertificate(%v) = %q, want %q", ranks, got, want)
			}
		}
	}
}

func TestCertificatesAreReadBack(t *testing.T) {
	n := &numbers{last: 40}
	lists := [][]int{nil, {0}, {-1}, {4000}, make([]int, 3840), make([]int, 4000), slices.Repeat([]int{-1}, 3999)}
	for range 300 {
		var ranks []int
		for range n.below(40) {
			ranks = append(ranks, []int{-1, n.below(3), n.below(100), n.below(4001)}[n.below(4)])
		}
		lists = append(lists, ranks)
	}
	var each []int
	for rank := -1; rank <= 3998; rank++ {
		each = append(each, rank)
	}
	lists = append(lists, each, []int{3999, 4000})
	c, _ := impl.MakeCertificate(markedRing(60), plainLabels(), stairs(64))
	for _, ranks := range append(lists, c.Ranks) {
		text := impl.FormatCertificate(impl.Certificate{Ranks: ranks})
		if text != certificateText(impl.Certificate{Ranks: ranks}) {
			t.Errorf("FormatCertificate(%v) = %q", ranks, text)
		}
		if got, ok := impl.ParseCertificate(text); !ok || !slices.Equal(got.Ranks, ranks) {
			t.Errorf("ParseCertificate(%q) = %v, %v", text, got, ok)
		}
		checkCertificateText(t, text)
	}
}

func TestParseCertificate(t *testing.T) {
	for text, want := range map[string][]int{
		"ranks": nil, "ranks 0": {0}, "ranks -": {-1}, "ranks 1 0 0": {1, 0, 0}, "ranks - - 7 -": {-1, -1, 7, -1}, "ranks 4000 3999": {4000, 3999}, "ranks 10 - 200": {10, -1, 200}, "ranks" + strings.Repeat(" -", 4000): slices.Repeat([]int{-1}, 4000),
	} {
		if c, ok := impl.ParseCertificate(text); !ok || !slices.Equal(c.Ranks, want) {
			t.Errorf("ParseCertificate(%.100q) = %.100v, %v", text, c, ok)
		}
		checkCertificateText(t, text)
	}
}

func TestParseCertificateRefuses(t *testing.T) {
	for _, text := range []string{
		"", " ", "r", "rank", "rank 1", "ranks1", "ranks-", "rankss", "rankss 1", "Ranks", "Ranks 1", "RANKS 1", "ranks: 1", "ranks\x00", "certificate", "0", "-", "1 0 0", "ranks ranks", "ranks 1 ranks", "ranks 1 ranks 2", "xranks 1",
		// Spaces.
		"ranks ", " ranks", " ranks 1", "ranks  1", "ranks 1 ", "ranks 1  2", "ranks  ", "ranks - ", "ranks  -", "ranks\t1", "ranks 1\t2", "ranks\n", "ranks 1\n", "ranks 1\r\n", "\nranks 1", "ranks\n1", "ranks 1\n2", "ranks 1\u00a02", "ranks\u00a01", "ranks\u20021", "ranks 1\v2", "ranks 1, 2", "ranks 1,2", "ranks\x001",
		// Leading zeros and signs.
		"ranks 01", "ranks 00", "ranks 007", "ranks 0 00", "ranks 04000", "ranks -0", "ranks -1", "ranks -2", "ranks +1", "ranks +0", "ranks --", "ranks --1", "ranks - -1", "ranks -1 -", "ranks 1-", "ranks 1 - 0-", "ranks -4000", "ranks +-1", "ranks +", "ranks 1 +", "ranks -00", "ranks \u22121", "ranks \u2013",
		// Numbers that are no ranks.
		"ranks 4001", "ranks 1 4001", "ranks 4001 1", "ranks 4010", "ranks 5000", "ranks 9999", "ranks 10000", "ranks 40000", "ranks 4294967296", "ranks 4294967297", "ranks 9223372036854775807", "ranks 9223372036854775808", "ranks 18446744073709551616", "ranks 18446744073709551617", "ranks -9223372036854775808", "ranks 99999999999999999999999999", "ranks -9223372036854775809",
		// What is no number.
		"ranks x", "ranks 1x", "ranks x1", "ranks 0x1", "ranks 0b1", "ranks 0o1", "ranks 1_0", "ranks 1e3", "ranks 1.0", "ranks 1.", "ranks .1", "ranks T", "ranks nil", "ranks _", "ranks *", "ranks (1)", "ranks \"1\"", "ranks 1 x 2", "ranks \xff", "ranks 1\xff", "ranks 1\x00", "ranks \x001", "ranks １", "ranks ①", "ranks ٣", "ranks 1 ٣", "\xffranks 1", "ranks\xff", "ranks [1 0]", "ranks 1;0", "ranks Inf", "ranks NaN",
		// Too many elements, or very long texts.
		"ranks" + strings.Repeat(" 0", 4001), "ranks" + strings.Repeat(" -", 4001), "ranks" + strings.Repeat(" 4000", 4001), "ranks" + strings.Repeat(" 0", 4000) + " ", "ranks" + strings.Repeat(" 0", 4000) + " x", "ranks" + strings.Repeat(" 0", 3999) + " x", "ranks" + strings.Repeat(" 0", 3999) + " ", "ranks" + strings.Repeat(" 0", 3999) + " 4001", "ranks" + strings.Repeat(" 0", 3999) + " -1",
		"ranks" + strings.Repeat(" 0", 5000000), "ranks" + strings.Repeat(" ", 10000000), strings.Repeat(" ", 10000000), "ranks " + strings.Repeat("1", 10000000), "ranks " + strings.Repeat("0", 10000000), "ranks " + strings.Repeat("-", 10000000), strings.Repeat("ranks", 2000000), strings.Repeat("ranks ", 1000), "ranks 1" + strings.Repeat(" ", 4001), "ranks" + strings.Repeat(" 0", 4000) + "\n",
	} {
		if c, ok := impl.ParseCertificate(text); ok || !isZeroCertificate(c) {
			t.Errorf("ParseCertificate(%.60q) = %.60v, %v", text, c, ok)
		}
		checkCertificateText(t, text)
	}
}

// Every text of the word and up to six of these bytes.
func TestParseCertificateOfAllShortTexts(t *testing.T) {
	const most, alphabet = 6, " -014x"
	var try func(text string)
	try = func(text string) {
		checkCertificateText(t, text)
		for i := 0; len(text) < len("ranks")+most && i < len(alphabet); i++ {
			try(text + alphabet[i:i+1])
		}
	}
	try("ranks")
}

// Every number of up to five digits, alone and with a sign.
func TestParseCertificateOfAllNumbers(t *testing.T) {
	for number := range 50000 {
		text := strconv.Itoa(number)
		c, ok := impl.ParseCertificate("ranks " + text)
		if ok != (number <= 4000) || ok && !slices.Equal(c.Ranks, []int{number}) {
			t.Fatalf("ParseCertificate of %d = %v, %v", number, c, ok)
		}
		for _, sign := range []string{"-", "+", "0"} {
			if c, ok := impl.ParseCertificate("ranks " + sign + text); ok || !isZeroCertificate(c) {
				t.Fatalf("ParseCertificate of %s%s = %v, %v", sign, text, c, ok)
			}
		}
	}
}

// Texts of certificates with one byte changed, left out or put in.
func TestParseCertificateOfChangedTexts(t *testing.T) {
	for _, text := range []string{"ranks", "ranks 0", "ranks -", "ranks 1 0 0", "ranks 4000 - 39 3999", "ranks - - 12 -"} {
		for i := range len(text) + 1 {
			for c := range 256 {
				b := string([]byte{byte(c)})
				checkCertificateText(t, text[:i]+b+text[i:])
				if i < len(text) {
					checkCertificateText(t, text[:i]+b+text[i+1:])
				}
			}
			checkCertificateText(t, text[:i])
			checkCertificateText(t, text[i:])
			if i < len(text) {
				checkCertificateText(t, text[:i]+text[i+1:])
			}
		}
	}
}
