package tests

import (
	"fmt"
	"math"
	"regexp"
	"slices"
	"strconv"
	"strings"
	"testing"

	"loop.example/decisiontables/impl"
)

// numbers and letters make columns.
func numbers(lo, hi int) impl.Column { return impl.Column{Lo: lo, Hi: hi} }

func letters(hi int) impl.Column { return impl.Column{Letters: true, Hi: hi} }

// goodColumns are columns with one value, at the limits, and in between.
func goodColumns() []impl.Column {
	return []impl.Column{
		numbers(0, 0), numbers(7, 7), numbers(-5, -5), numbers(0, 9), numbers(-5, 20), numbers(-12, -3),
		numbers(impl.MinNum, impl.MinNum), numbers(impl.MaxNum, impl.MaxNum), numbers(impl.MinNum, impl.MaxNum),
		numbers(0, impl.MaxNum), numbers(impl.MinNum, 0),
		letters(0), letters(1), letters(3), letters(24), letters(25),
	}
}

// badColumns are no columns.
func badColumns() []impl.Column {
	return []impl.Column{
		numbers(1, 0), numbers(9, -9), numbers(impl.MinNum-1, 0), numbers(0, impl.MaxNum+1),
		numbers(impl.MinNum-1, impl.MinNum-1), numbers(impl.MaxNum+1, impl.MaxNum+1),
		numbers(math.MinInt, math.MaxInt), numbers(math.MaxInt, math.MinInt), numbers(0, math.MaxInt), numbers(math.MinInt, 0),
		letters(-1), letters(26), letters(impl.MaxNum), letters(math.MaxInt), letters(math.MinInt),
		{Letters: true, Lo: 1, Hi: 3}, {Letters: true, Lo: -1, Hi: 3}, {Letters: true, Lo: 25, Hi: 25}, {Letters: true, Lo: 3, Hi: 0},
	}
}

// wantValue is the text of a value, whether the column has it or not.
func wantValue(c impl.Column, n int) string {
	if c.Letters {
		return "ABCDEFGHIJKLMNOPQRSTUVWXYZ"[n : n+1]
	}
	return strconv.Itoa(n)
}

// wantSpanTexts is the text of spans of a column that are not all of its values.
func wantSpanTexts(c impl.Column, s []impl.Span) string {
	var texts []string
	for _, x := range s {
		if x.Lo == x.Hi {
			texts = append(texts, wantValue(c, x.Lo))
		} else {
			texts = append(texts, wantValue(c, x.Lo)+".."+wantValue(c, x.Hi))
		}
	}
	return strings.Join(texts, ",")
}

// listText is the text of every second value from lo on, as a list of count parts.
func listText(count, lo int) string {
	return wantSpanTexts(numbers(impl.MinNum, impl.MaxNum), singles(count, lo))
}

// otherTexts are texts with bytes that no text has, made from a good text: one byte put in at each place, or in the place of each byte.
func otherTexts(text string) []string {
	var list []string
	for _, other := range []string{" ", "\n", "\t", "\x00", "\x80", "\xc3", "\xff", "\xe2\x82", "\ufffd", "é", "\u0661", "\u2212", "\uff10", "\uff21", "\u2026", "\U0001f600", "a", "[", "@", "/", ":", "_", "+", ";"} {
		for i := range len(text) + 1 {
			list = append(list, text[:i]+other+text[i:])
			if i < len(text) {
				list = append(list, text[:i]+other+text[i+1:])
			}
		}
	}
	return list
}

func TestColumnValid(t *testing.T) {
	for _, c := range goodColumns() {
		if !impl.ColumnValid(c) {
			t.Errorf("ColumnValid(%v) = false", c)
		}
		wantSpans(t, fmt.Sprintf("ColumnSet(%v)", c), impl.ColumnSet(c), true, row(c.Lo, c.Hi), true)
	}
	for _, c := range badColumns() {
		if impl.ColumnValid(c) {
			t.Errorf("ColumnValid(%v) = true", c)
		}
		wantSpans(t, fmt.Sprintf("ColumnSet(%v)", c), impl.ColumnSet(c), true, nil, true)
	}
}

// TestAllColumns has each pair of numbers, and of numbers just behind the limits.
func TestAllColumns(t *testing.T) {
	for lo := impl.MinNum - 1; lo <= impl.MaxNum+1; lo++ {
		for hi := impl.MinNum - 1; hi <= impl.MaxNum+1; hi++ {
			good := impl.MinNum <= lo && lo <= hi && hi <= impl.MaxNum
			checkColumn(t, numbers(lo, hi), good, fmt.Sprintf("%d..%d", lo, hi))
		}
	}
	for hi := -2; hi < 40; hi++ {
		checkColumn(t, letters(hi), 0 <= hi && hi <= 25, "A.."+string(rune('A'+hi)))
	}
}

// checkColumn checks that a column is read from its text, and has it, if it is one.
func checkColumn(t *testing.T, c impl.Column, good bool, text string) {
	t.Helper()
	wantText, want := "", impl.Column{}
	if good {
		wantText, want = text, c
	}
	if got := impl.FormatColumn(c); impl.ColumnValid(c) != good || got != wantText {
		t.Errorf("FormatColumn(%v) = %q, ColumnValid = %v", c, got, !good)
	}
	if got, ok := impl.ParseColumn(text); got != want || ok != good {
		t.Errorf("ParseColumn(%q) = %v, %v", text, got, ok)
	}
}

func TestColumnsRefuse(t *testing.T) {
	for _, c := range badColumns() {
		if got := impl.FormatColumn(c); got != "" {
			t.Errorf("FormatColumn(%v) = %q", c, got)
		}
	}
	list := []string{
		"", ".", "..", "...", "-", "0", "A", "0..", "..9", "A..", "..D", "0.9", "0...9", "0....9", "0..9..", "..0..9", "0..9..12", "A..B..C",
		"9..0", "1..0", "B..A", "D..A", "B..D", "Z..Z", "a..d", "A..d", "A..9", "0..D", "A..AB", "AA..B", "A..[", "@..C",
		"00..9", "0..09", "01..9", "-0..9", "-5..-0", "-0..0", "-05..5", "+0..9", "0..+9", "--5..5", "5..-5", "0..0x9", "0..1e1", "0..9.0",
		"-100..0", "0..100", "0..1000", "-..5", "0..-", "0,9", "0..9,", "<0..9", "not(0..9)",
		"0.." + strings.Repeat("9", 40), strings.Repeat("0", 40) + "..9", "0.." + strconv.Itoa(math.MaxInt), "0..18446744073709551625", "0..4294967305",
	}
	list = append(list, otherTexts("0..9")...)
	list = append(list, otherTexts("-5..20")...)
	list = append(list, otherTexts("A..D")...)
	for _, text := range list {
		if c, ok := impl.ParseColumn(text); ok || c != (impl.Column{}) {
			t.Errorf("ParseColumn(%q) = %v, %v", text, c, ok)
		}
	}
}

// TestValues has each value of the columns, and each number that is none.
func TestValues(t *testing.T) {
	for _, c := range goodColumns() {
		for n := impl.MinNum - 2; n <= impl.MaxNum+2; n++ {
			text := ""
			if c.Lo <= n && n <= c.Hi {
				text = wantValue(c, n)
			}
			if got := impl.FormatValue(c, n); got != text {
				t.Errorf("FormatValue(%v, %d) = %q", c, n, got)
			}
			if text != "" {
				checkParseValue(t, c, text, n, true)
			} else {
				checkParseValue(t, c, strconv.Itoa(n), 0, false)
			}
		}
		for n := range 26 {
			if c.Letters && n > c.Hi || !c.Letters {
				checkParseValue(t, c, wantValue(letters(25), n), 0, false)
			}
		}
	}
}

// checkParseValue checks a result of ParseValue.
func checkParseValue(t *testing.T, c impl.Column, text string, want int, wantOk bool) {
	t.Helper()
	if n, ok := impl.ParseValue(c, text); n != want || ok != wantOk {
		t.Errorf("ParseValue(%v, %q) = %d, %v, want %d, %v", c, text, n, ok, want, wantOk)
	}
}

func TestValuesRefuse(t *testing.T) {
	list := []string{
		"", "-", "--1", "-0", "00", "01", "-01", "007", "+1", "1.", ".1", "1.0", "1e1", "0x1", "1_0", "1,2", "1..2", "<1", "- 1", "1-", "A1", "AB", "a", "[", "@",
		"100", "-100", "999", strings.Repeat("0", 50), strings.Repeat("0", 50) + "1", strings.Repeat("9", 50), "-" + strings.Repeat("9", 50),
		"18446744073709551617", "-18446744073709551615", "4294967297", strconv.Itoa(math.MinInt), strconv.Itoa(math.MaxInt),
	}
	list = append(list, otherTexts("12")...)
	list = append(list, otherTexts("-7")...)
	for _, text := range list {
		checkParseValue(t, numbers(impl.MinNum, impl.MaxNum), text, 0, false)
		checkParseValue(t, letters(25), text, 0, false)
	}
	for _, text := range otherTexts("A") {
		checkParseValue(t, letters(25), text, 0, false)
	}
	for _, c := range goodColumns() {
		for _, n := range []int{math.MinInt, math.MaxInt, 1 << 32, -1 << 32, 1<<32 + 1, 256, 128} {
			if got := impl.FormatValue(c, n); got != "" {
				t.Errorf("FormatValue(%v, %d) = %q", c, n, got)
			}
		}
	}
	for _, c := range badColumns() {
		for n := -30; n <= 30; n++ {
			if got := impl.FormatValue(c, n); got != "" {
				t.Errorf("FormatValue(%v, %d) = %q", c, n, got)
			}
			checkParseValue(t, c, strconv.Itoa(n), 0, false)
		}
		for _, text := range []string{"", "-", "A", "B", "Z"} {
			checkParseValue(t, c, text, 0, false)
		}
	}
}

// TestTestsAreReadBack has all tests of columns with seven values, or fewer.
func TestTestsAreReadBack(t *testing.T) {
	for _, c := range []impl.Column{
		numbers(0, 6), numbers(-3, 3), numbers(-9, -3), numbers(impl.MinNum, impl.MinNum+6), numbers(impl.MaxNum-6, impl.MaxNum),
		numbers(5, 5), numbers(impl.MinNum, impl.MinNum), numbers(impl.MaxNum, impl.MaxNum), numbers(-1, 0), letters(6), letters(0),
	} {
		count := c.Hi - c.Lo + 1
		for bits := range uint(1) << count {
			want := wantSpanTexts(c, fromBits(bits, c.Lo))
			if bits == 1<<count-1 {
				want = "-"
			}
			checkReadBack(t, c, fromBits(bits, c.Lo), want)
			all, others := fromBits(1<<count-1, c.Lo), fromBits(^bits&(1<<count-1), c.Lo)
			if bits != 0 {
				got, ok := impl.ParseTest(c, "not("+wantSpanTexts(c, fromBits(bits, c.Lo))+")")
				wantSpans(t, "not("+want+")", got, ok, others, true)
			}
			got, ok := impl.ParseTest(c, wantSpanTexts(c, all))
			wantSpans(t, "all values", got, ok, all, true)
		}
	}
}

// checkReadBack checks the text of a test, and that the test is read back from it.
func checkReadBack(t *testing.T, c impl.Column, s []impl.Span, want string) {
	t.Helper()
	text := impl.FormatTest(c, s)
	if text != want {
		t.Errorf("FormatTest(%v, %v) = %q, want %q", c, s, text, want)
	}
	got, ok := impl.ParseTest(c, text)
	wantSpans(t, fmt.Sprintf("ParseTest(%v, %q)", c, text), got, ok, s, true)
}

func TestFormatTest(t *testing.T) {
	wide := numbers(impl.MinNum, impl.MaxNum)
	checkReadBack(t, wide, row(impl.MinNum, impl.MaxNum), "-")
	checkReadBack(t, wide, row(), "")
	checkReadBack(t, wide, row(impl.MinNum, impl.MinNum, impl.MaxNum, impl.MaxNum), "-99,99")
	checkReadBack(t, wide, row(impl.MinNum, -98, 0, 0, 98, impl.MaxNum), "-99..-98,0,98..99")
	checkReadBack(t, wide, row(-12, -3, -1, 4), "-12..-3,-1..4")
	checkReadBack(t, wide, singles(12, impl.MinNum), listText(12, impl.MinNum))
	checkReadBack(t, wide, singles(12, impl.MaxNum-22), listText(12, impl.MaxNum-22))
	checkReadBack(t, letters(25), row(0, 25), "-")
	checkReadBack(t, letters(25), row(0, 24), "A..Y")
	checkReadBack(t, letters(25), row(0, 0, 2, 3, 25, 25), "A,C..D,Z")
	checkReadBack(t, letters(0), row(0, 0), "-")
	checkReadBack(t, numbers(7, 7), row(7, 7), "-")
	checkReadBack(t, numbers(7, 7), nil, "")
}

func TestFormatTestRefuses(t *testing.T) {
	c := numbers(0, 9)
	list := [][]impl.Span{row(-1, 0), row(9, 10), row(-1, -1), row(10, 10), row(0, 9, 11, 11), row(-99, 99), row(0, 99), row(2, 3, 5, 12)}
	for _, bad := range badSets() {
		list = append(list, bad)
	}
	for _, s := range list {
		if got := impl.FormatTest(c, s); got != "" {
			t.Errorf("FormatTest(%v, %v) = %q", c, s, got)
		}
	}
	for _, c := range badColumns() {
		for _, s := range [][]impl.Span{nil, row(0, 0), row(1, 3), row(c.Lo, c.Hi), row(c.Hi, c.Lo)} {
			if got := impl.FormatTest(c, s); got != "" {
				t.Errorf("FormatTest(%v, %v) = %q", c, s, got)
			}
		}
	}
}

func TestParseTest(t *testing.T) {
	digit, wide, word, one := numbers(0, 9), numbers(impl.MinNum, impl.MaxNum), letters(3), numbers(7, 7)
	cases := []struct {
		c    impl.Column
		text string
		want []impl.Span
	}{
		{digit, "-", row(0, 9)}, {digit, "", nil}, {digit, "0..9", row(0, 9)}, {digit, "3", row(3, 3)}, {digit, "3..3", row(3, 3)},
		{digit, "not(<3,7)", row(3, 6, 8, 9)}, {digit, "not(5)", row(0, 4, 6, 9)}, {digit, "not(0)", row(1, 9)}, {digit, "not(9)", row(0, 8)},
		{digit, "<3", row(0, 2)}, {digit, "<=3", row(0, 3)}, {digit, ">3", row(4, 9)}, {digit, ">=3", row(3, 9)},
		{digit, "<0", nil}, {digit, "<=0", row(0, 0)}, {digit, ">0", row(1, 9)}, {digit, ">=0", row(0, 9)},
		{digit, "<9", row(0, 8)}, {digit, "<=9", row(0, 9)}, {digit, ">9", nil}, {digit, ">=9", row(9, 9)},
		{digit, "<0,>9", nil}, {digit, "<0,4", row(4, 4)}, {digit, "4,>9", row(4, 4)},
		{digit, "not(<0)", row(0, 9)}, {digit, "not(>9,<0)", row(0, 9)}, {digit, "not(0..9)", nil}, {digit, "not(>=0)", nil}, {digit, "not(<5,>=5)", nil},
		{digit, "5,3,4", row(3, 5)}, {digit, "3,3,3", row(3, 3)}, {digit, "2..5,4..7", row(2, 7)}, {digit, "0..9,3", row(0, 9)}, {digit, "4..7,2..5,6", row(2, 7)},
		{digit, ">=4,<2", row(0, 1, 4, 9)}, {digit, "<=4,>=3", row(0, 9)}, {digit, "9,0", row(0, 0, 9, 9)}, {digit, "1..2,3..4", row(1, 4)},
		{one, "-", row(7, 7)}, {one, "7", row(7, 7)}, {one, "7..7", row(7, 7)}, {one, "<7", nil}, {one, ">7", nil}, {one, "<=7", row(7, 7)}, {one, "not(7)", nil}, {one, "not(<7)", row(7, 7)},
		{wide, "-", row(-99, 99)}, {wide, "<-99", nil}, {wide, ">99", nil}, {wide, "not(<-99)", row(-99, 99)}, {wide, "not(>99)", row(-99, 99)},
		{wide, "<=-99,>=99", row(-99, -99, 99, 99)}, {wide, "not(-99,99)", row(-98, 98)}, {wide, "not(-98..98)", row(-99, -99, 99, 99)},
		{wide, "-5..-3", row(-5, -3)}, {wide, "-5", row(-5, -5)}, {wide, "<-5", row(-99, -6)}, {wide, ">=-5", row(-5, 99)}, {wide, "-1..1", row(-1, 1)}, {wide, "-99..99", row(-99, 99)},
		{word, "-", row(0, 3)}, {word, "", nil}, {word, "B", row(1, 1)}, {word, "B..D", row(1, 3)}, {word, "D,A", row(0, 0, 3, 3)}, {word, "A..D", row(0, 3)},
		{word, "<A", nil}, {word, "<B", row(0, 0)}, {word, ">=C", row(2, 3)}, {word, ">D", nil}, {word, "<=D", row(0, 3)}, {word, "not(B)", row(0, 0, 2, 3)}, {word, "not(A..D)", nil},
		{letters(25), "not(A,Z)", row(1, 24)}, {letters(25), "N..Z", row(13, 25)}, {letters(25), ">Y", row(25, 25)},
		{letters(0), "A", row(0, 0)}, {letters(0), "not(A)", nil}, {letters(0), "<A", nil},
	}
	for _, c := range cases {
		got, ok := impl.ParseTest(c.c, c.text)
		wantSpans(t, fmt.Sprintf("ParseTest(%v, %q)", c.c, c.text), got, ok, c.want, true)
	}
}

func TestParseTestRefuses(t *testing.T) {
	texts := map[impl.Column][]string{
		numbers(0, 9): {
			"--", "-,1", "1,-", "not", "not(", "not()", "not(-)", "not(,)", "not(1", "not1)", "not(1))", "not((1)", "not(1),2", "2,not(1)", "not(not(1))", "NOT(1)", "not (1)", "(1)", "not(1,)", "not(10)", "not(3..1)",
			",", "1,", ",1", "1,,2", "1;2", "1, 2", " 1", "1 ", "10", "-1", "0..10", "-1..3", "5..3", "1..", "..1", "..", ".", "1...2", "1....2", "1..2..3", "1.2", "1-2",
			"01", "00", "-0", "1..02", "01..2", "<01", "<-0", "not(01)", "+1", "<", "<=", ">", ">=", "=", "=1", "==1", "=<1", "=>1", "<>1", "><1", "<<1", "< 1", "<1>", "1<", "<=>1", "<==1", "!1", "!=1",
			"<10", ">10", "<=10", ">=-1", "<-1", ">-1", "<1..2", "1..<2", "<A", "A", "1..A", "<,1", "<1,>", "99999999999999999999", "18446744073709551617", "1..18446744073709551617",
		},
		letters(3):    {"E", "A..E", "E..F", "<E", ">=E", "B..A", "a", "b..c", "AB", "1", "0", "A..1", "0..B", "<0", "A,", "not(E)", "not()", "not(A", "not", "n", "@", "<", "A..", "..B", "A...B", "A..B..C"},
		numbers(5, 5): {"4", "6", "4..5", "5..6", "<6", "<4", ">4", "05", "A", "not(6)"},
		letters(0):    {"B", "A..B", "<B", "0", "not(B)"},
	}
	for c, list := range texts {
		for _, text := range list {
			checkParseTestRefuses(t, c, text)
		}
	}
	for _, c := range badColumns() {
		for _, text := range []string{"-", "", "0", "1", "A", "B", "<1", "not(1)", "0..1", "<A", "not(A)"} {
			checkParseTestRefuses(t, c, text)
		}
	}
}

// checkParseTestRefuses checks that a text is none of a test.
func checkParseTestRefuses(t *testing.T, c impl.Column, text string) {
	t.Helper()
	got, ok := impl.ParseTest(c, text)
	wantSpans(t, fmt.Sprintf("ParseTest(%v, %q)", c, text), got, ok, nil, false)
}

// TestTextsWithOtherBytes puts bytes that no test has, also such that are no UTF-8, into tests.
func TestTextsWithOtherBytes(t *testing.T) {
	for _, text := range []string{"-", "", "3", "12", "-5", "2..5", "<=7", "1,>3", "not(<3,7)"} {
		for _, other := range otherTexts(text) {
			checkParseTestRefuses(t, numbers(impl.MinNum, impl.MaxNum), other)
		}
	}
	for _, text := range []string{"-", "", "B", "B..D", "<=C", "A,>C", "not(<B,D)"} {
		for _, other := range otherTexts(text) {
			checkParseTestRefuses(t, letters(25), other)
		}
	}
}

// TestPartLimit has 51 and 52 parts with values, with others between them that do not count.
func TestPartLimit(t *testing.T) {
	wide := numbers(impl.MinNum, impl.MaxNum)
	join := func(part string, count int) string { return strings.TrimSuffix(strings.Repeat(part+",", count), ",") }
	cases := []struct {
		name string
		text string
		want []impl.Span
		ok   bool
	}{
		{"51 parts", join("4", 51), row(4, 4), true},
		{"52 parts", join("4", 52), nil, false},
		{"51 parts of all values", join(">=-99", 51), row(-99, 99), true},
		{"52 parts of all values", join(">=-99", 52), nil, false},
		{"not 51 parts", "not(" + join("4", 51) + ")", row(-99, 3, 5, 99), true},
		{"not 52 parts", "not(" + join("4", 52) + ")", nil, false},
		{"51 spans that touch", join("1..2,3..4,5..6", 17), row(1, 6), true},
		{"52 spans that touch", join("1..2,3..4,5..6", 17) + ",1", nil, false},
		{"51 parts and 300 without values", join("<-99,4,>99", 51) + "," + join("<-99", 198), row(4, 4), true},
		{"52 parts and some without values", join("<-99,4,>99", 52), nil, false},
		{"many parts without values", join("<-99", 1000), nil, true},
		{"not many parts without values", "not(" + join(">99", 1000) + ")", row(-99, 99), true},
		{"51 parts and a bad one", join("4", 51) + ",x", nil, false},
		{"51 parts and an empty one", join("4", 51) + ",", nil, false},
		{"a bad part behind parts without values", join("<-99", 1000) + ",100", nil, false},
	}
	for _, c := range cases {
		got, ok := impl.ParseTest(wide, c.text)
		wantSpans(t, c.name, got, ok, c.want, c.ok)
	}
}

// TestSpanLimit has sets of 12 and 13 spans, as lists, as what is negated, and as what is left.
func TestSpanLimit(t *testing.T) {
	cases := []struct {
		name string
		c    impl.Column
		text string
		want []impl.Span
		ok   bool
	}{
		{"12 spans", numbers(0, 99), listText(12, 0), singles(12, 0), true},
		{"13 spans", numbers(0, 99), listText(13, 0), nil, false},
		{"13 spans joined to 12", numbers(0, 99), listText(13, 0) + ",1", append(row(0, 2), singles(11, 4)...), true},
		{"13 spans joined to one", numbers(0, 99), listText(13, 0) + ",0..24", row(0, 24), true},
		{"51 spans", numbers(impl.MinNum, impl.MaxNum), listText(51, 0), nil, false},
		{"not 12 spans, 11 left", numbers(0, 22), "not(" + listText(12, 0) + ")", singles(11, 1), true},
		{"not 12 spans, 12 left", numbers(0, 23), "not(" + listText(12, 0) + ")", singles(12, 1), true},
		{"not 12 spans, 13 left", numbers(0, 24), "not(" + listText(12, 1) + ")", nil, false},
		{"not 11 spans, 12 left", numbers(0, 22), "not(" + listText(11, 1) + ")", singles(12, 0), true},
		{"not 13 spans, 12 left", numbers(0, 24), "not(" + listText(13, 0) + ")", nil, false},
		{"not 13 spans, 14 left", numbers(0, 99), "not(" + listText(13, 1) + ")", nil, false},
		{"not 13 spans joined to 12", numbers(0, 24), "not(" + listText(13, 0) + ",1)", singles(11, 3), true},
		{"12 letters", letters(25), "A,C,E,G,I,K,M,O,Q,S,U,W", singles(12, 0), true},
		{"13 letters", letters(25), "A,C,E,G,I,K,M,O,Q,S,U,W,Y", nil, false},
		{"not 12 letters, 12 left", letters(25), "not(A,C,E,G,I,K,M,O,Q,S,U,W)", append(singles(11, 1), row(23, 25)...), true},
		{"not 12 letters, 13 left", letters(25), "not(B,D,F,H,J,L,N,P,R,T,V,X)", nil, false},
	}
	for _, c := range cases {
		got, ok := impl.ParseTest(c.c, c.text)
		wantSpans(t, c.name, got, ok, c.want, c.ok)
	}
}

var negation = regexp.MustCompile(`^not\((.+)\)$`)

// grammarTest reads a test as the document's sentences say it, by patterns over the texts of all values.
func grammarTest(c impl.Column, text string) (uint, bool) {
	var values []string
	for n := c.Lo; n <= c.Hi; n++ {
		values = append(values, wantValue(c, n))
	}
	all := uint(1)<<len(values) - 1
	if text == "-" || text == "" {
		return all * uint(len(text)), true
	}
	if m := negation.FindStringSubmatch(text); m != nil {
		bits, ok := grammarList(values, m[1])
		if !ok {
			return 0, false
		}
		return all &^ bits, true
	}
	return grammarList(values, text)
}

// grammarList reads a list of parts, by the places of the values.
func grammarList(values []string, text string) (uint, bool) {
	bits := uint(0)
	for _, part := range strings.Split(text, ",") {
		sign := part[:len(part)-len(strings.TrimLeft(part, "<>="))]
		ends := strings.SplitN(part[len(sign):], "..", 2)
		from, to := slices.Index(values, ends[0]), slices.Index(values, ends[len(ends)-1])
		if from < 0 || to < 0 || from > to || len(ends) == 2 && sign != "" || !slices.Contains([]string{"", "<", "<=", ">", ">="}, sign) {
			return 0, false
		}
		for i := range values {
			if sign == "" && from <= i && i <= to || sign == "<" && i < to || sign == "<=" && i <= to || sign == ">" && i > to || sign == ">=" && i >= to {
				bits |= 1 << i
			}
		}
	}
	return bits, true
}

// TestAllShortTexts holds ParseTest against the grammar, for each text of a few words.
func TestAllShortTexts(t *testing.T) {
	words := map[impl.Column][]string{
		numbers(0, 3):  {"0", "2", "4", "-", "<", "=", ">", "..", ",", "not(", ")"},
		numbers(-2, 1): {"0", "1", "2", "-", "<", ">=", "..", ",", "not(", ")", "\xff"},
		letters(3):     {"A", "C", "E", "-", "<", "=", ">", ".", ",", "not(", ")"},
	}
	for c, list := range words {
		texts := []string{""}
		for range 6 {
			var longer []string
			for _, text := range texts {
				bits, ok := grammarTest(c, text)
				want := fromBits(bits, c.Lo)
				if got, gotOk := impl.ParseTest(c, text); gotOk != ok || !slices.Equal(got, want) {
					t.Errorf("ParseTest(%v, %q) = %v, %v, want %v, %v", c, text, got, gotOk, want, ok)
				}
				for _, word := range list {
					longer = append(longer, text+word)
				}
			}
			if t.Failed() {
				return
			}
			texts = longer
		}
	}
}

// TestTestsShareNoMemory writes over the results.
func TestTestsShareNoMemory(t *testing.T) {
	c := numbers(0, 9)
	makers := map[string]func() []impl.Span{"ColumnSet": func() []impl.Span { return impl.ColumnSet(c) }}
	for _, text := range []string{"-", "1..3,5", "<4,7..8", "not(4)", "not(<0)"} {
		makers[text] = func() []impl.Span { s, _ := impl.ParseTest(c, text); return s }
	}
	for name, build := range makers {
		first := build()
		want := slices.Clone(first)
		second := build()
		for i := range first[:cap(first)] {
			first[:cap(first)][i] = impl.Span{Lo: 77, Hi: 77}
		}
		if len(want) == 0 || !slices.Equal(second, want) || !slices.Equal(build(), want) {
			t.Errorf("%s shares memory with another result, or has none", name)
		}
	}
}

// TestFormatTestKeepsSet checks that a set stays as it is, also behind its end.
func TestFormatTestKeepsSet(t *testing.T) {
	whole := row(1, 3, 5, 5, 8, 9)
	kept := slices.Clone(whole)
	if got := impl.FormatTest(numbers(0, 9), whole[:2]); got != "1..3,5" || !slices.Equal(whole, kept) {
		t.Errorf("FormatTest = %q, and the set is %v", got, whole)
	}
}
