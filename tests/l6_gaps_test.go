package tests

import (
	"fmt"
	"math"
	"slices"
	"strings"
	"testing"

	"loop.example/decisiontables/impl"
)

// boxesSame tells whether two lists have the same boxes, in the same order.
func boxesSame(a, b [][]impl.Span) bool {
	return slices.EqualFunc(a, b, slices.Equal[[]impl.Span])
}

// wantBoxes are the boxes of the inputs that begin with some values, and that least to most rules match. They are found by a sweep over values, not over cuts: values of a cut have the same boxes.
func wantBoxes(x impl.Table, least, most int, begin ...int) [][]impl.Span {
	if len(begin) == len(x.Columns) {
		if n := len(wantMatches(x, begin)); n < least || n > most {
			return nil
		}
		return [][]impl.Span{{}}
	}
	c := x.Columns[len(begin)]
	var rests [][][]impl.Span
	for n := c.Lo; n <= c.Hi; n++ {
		rests = append(rests, wantBoxes(x, least, most, append(slices.Clone(begin), n)...))
	}
	var boxes [][]impl.Span
	for i := 0; i < len(rests); {
		end := i + 1
		for end < len(rests) && boxesSame(rests[i], rests[end]) {
			end++
		}
		for _, rest := range rests[i] {
			boxes = append(boxes, append([]impl.Span{{Lo: c.Lo + i, Hi: c.Lo + end - 1}}, rest...))
		}
		i = end
	}
	return boxes
}

// boxTexts writes boxes as tests of columns.
func boxTexts(columns []impl.Column, boxes [][]impl.Span) string {
	var texts []string
	for _, box := range boxes {
		var tests []string
		for k, x := range box {
			tests = append(tests, impl.FormatTest(columns[k], []impl.Span{x}))
		}
		texts = append(texts, strings.Join(tests, ";"))
	}
	return strings.Join(texts, " ")
}

// checkBoxes checks a list of boxes of a table with few inputs: each input that least to most rules match is in one of them, and no other is in any.
func checkBoxes(t *testing.T, x impl.Table, least, most int) {
	t.Helper()
	what := fmt.Sprintf("BoxesWhere(%q, %d, %d)", impl.FormatTable(x), least, most)
	boxes, ok := impl.BoxesWhere(x, least, most)
	if want := wantBoxes(x, least, most); !ok || !boxesSame(boxes, want) {
		t.Errorf("%s = %v, %v, want %v", what, boxes, ok, want)
	}
	total := 0
	allInputs(x.Columns, func(in []int) {
		count, want := 0, 0
		for _, box := range boxes {
			if impl.BoxHas(box, in) {
				count++
			}
		}
		if n := len(wantMatches(x, in)); least <= n && n <= most {
			want = 1
		}
		if count != want {
			t.Errorf("%s: %d boxes have %v, want %d", what, count, in, want)
		}
		total += want
	})
	if got := impl.BoxesSize(boxes); got != total {
		t.Errorf("BoxesSize of %s = %d, want %d", what, got, total)
	}
}

// checkGaps checks all functions about gaps, for a table with few inputs.
func checkGaps(t *testing.T, x impl.Table) {
	t.Helper()
	checkBoxes(t, x, 0, 0)
	text := impl.FormatTable(x)
	gaps, ok := impl.GapBoxes(x)
	if want := wantBoxes(x, 0, 0); !ok || !boxesSame(gaps, want) {
		t.Errorf("GapBoxes(%q) = %v, %v, want %v", text, gaps, ok, want)
	}
	var first []int
	size := 0
	allInputs(x.Columns, func(in []int) {
		if len(wantMatches(x, in)) > 0 {
			return
		}
		if size == 0 {
			first = slices.Clone(in)
		}
		size++
	})
	if got, ok := impl.GapSize(x); !ok || got != size {
		t.Errorf("GapSize(%q) = %d, %v, want %d", text, got, ok, size)
	}
	if got, ok := impl.FirstGap(x); ok != (size > 0) || !slices.Equal(got, first) {
		t.Errorf("FirstGap(%q) = %v, %v, want %v", text, got, ok, first)
	}
	checkFirstGap(t, x)
	if got := impl.IsComplete(x); got != (size == 0) {
		t.Errorf("IsComplete(%q) = %v", text, got)
	}
	for _, out := range []int{0, 7, 99} {
		checkFill(t, x, out)
	}
}

// checkFirstGap checks the first gap against the matches of the cells.
func checkFirstGap(t *testing.T, x impl.Table) {
	t.Helper()
	var want []int
	for n := range wantCells(x) {
		if matches, ok := impl.CellMatches(x, n); ok && len(matches) == 0 {
			cell, _ := impl.CellAt(x, n)
			want, _ = impl.BoxFirst(cell)
			break
		}
	}
	if got, ok := impl.FirstGap(x); ok != (want != nil) || !slices.Equal(got, want) {
		t.Errorf("FirstGap(%q) = %v, %v, want %v", impl.FormatTable(x), got, ok, want)
	}
}

// checkFill checks a table whose gaps are filled: its new rules match the gaps, each input of them once, and nothing else.
func checkFill(t *testing.T, x impl.Table, out int) {
	t.Helper()
	want := cloneTable(x)
	for _, box := range wantBoxes(x, 0, 0) {
		var tests [][]impl.Span
		for _, s := range box {
			tests = append(tests, []impl.Span{s})
		}
		want.Rules = append(want.Rules, rule(out, tests...))
	}
	filled, ok := impl.FillGaps(x, out)
	if len(want.Rules) > 12 {
		checkNoFill(t, impl.FormatTable(x), x, out)
		return
	}
	if !ok || !impl.TableSame(filled, want) || !impl.TableValid(filled) {
		t.Errorf("FillGaps(%q, %d) = %v, %v, want %v", impl.FormatTable(x), out, filled, ok, want)
		return
	}
	allInputs(x.Columns, func(in []int) {
		old, now := wantMatches(x, in), wantMatches(filled, in)
		if len(old) == 0 && len(now) != 1 || len(old) > 0 && !slices.Equal(old, now) {
			t.Errorf("FillGaps(%q, %d) has the matches %v for %v, and the table %v", impl.FormatTable(x), out, now, in, old)
		}
	})
	if again, ok := impl.FillGaps(filled, 99-out); !ok || !impl.TableSame(again, filled) || !impl.IsComplete(filled) {
		t.Errorf("FillGaps(%q, %d) has gaps", impl.FormatTable(x), out)
	}
}

// checkNoFill checks that a table is not filled.
func checkNoFill(t *testing.T, name string, x impl.Table, out int) {
	t.Helper()
	if got, ok := impl.FillGaps(x, out); ok || show(got) != show(impl.Table{}) {
		t.Errorf("%s: FillGaps(%d) = %v, %v", name, out, got, ok)
	}
}

// checkNoGaps checks that all functions about gaps refuse a table.
func checkNoGaps(t *testing.T, name string, x impl.Table) {
	t.Helper()
	for _, ends := range [][2]int{{0, 0}, {0, 12}, {1, 12}, {2, 12}, {1, 0}, {math.MinInt, math.MaxInt}} {
		if got, ok := impl.BoxesWhere(x, ends[0], ends[1]); ok || len(got) != 0 {
			t.Errorf("%s: BoxesWhere(%v) = %v, %v", name, ends, got, ok)
		}
	}
	if got, ok := impl.GapBoxes(x); ok || len(got) != 0 {
		t.Errorf("%s: GapBoxes = %v, %v", name, got, ok)
	}
	if got, ok := impl.GapSize(x); ok || got != 0 {
		t.Errorf("%s: GapSize = %d, %v", name, got, ok)
	}
	if got, ok := impl.FirstGap(x); ok || len(got) != 0 {
		t.Errorf("%s: FirstGap = %v, %v", name, got, ok)
	}
	if impl.IsComplete(x) {
		t.Errorf("%s: IsComplete = true", name)
	}
	for _, out := range []int{0, 1, 99, -1, 100} {
		checkNoFill(t, name, x, out)
	}
}

// TestGaps has tables with one to four columns and none to twelve rules, under each policy.
func TestGaps(t *testing.T) {
	complete, several, full := 0, 0, 0
	for _, x := range smallTables() {
		checkGaps(t, x)
		gaps, _ := impl.GapBoxes(x)
		switch {
		case len(gaps) == 0:
			complete++
		case len(gaps)+len(x.Rules) > 12:
			full++
		case len(gaps) > 1:
			several++
		}
	}
	if complete < 10 || several < 20 || full < 5 {
		t.Errorf("%d tables were complete, %d had several gaps, and %d too many", complete, several, full)
	}
	for _, x := range goodTables() {
		if impl.InputsOf(x) <= 1000 {
			checkGaps(t, x)
		}
	}
}

// TestGapsOfAllTests has all pairs of rules of a table with two small columns, and all pairs of tests of a column with five values, at both limits.
func TestGapsOfAllTests(t *testing.T) {
	for a := range uint(64) {
		for b := range uint(64) {
			x := tableOf(int(a+b)%10+1, columnsOf(numbers(-1, 1), letters(2)), rule(3, fromBits(a&7, -1), fromBits(a>>3, 0)), rule(3, fromBits(b&7, -1), fromBits(b>>3, 0)))
			checkGaps(t, x)
			checkBoxes(t, x, 1, 1)
			checkBoxes(t, x, 1, 2)
		}
	}
	for _, lo := range []int{impl.MinNum, impl.MaxNum - 4} {
		for a := range uint(32) {
			for b := range uint(32) {
				x := tableOf(int(a+b)%10+1, columnsOf(numbers(lo, lo+4)), rule(0, fromBits(a, lo)), rule(9, fromBits(b, lo)))
				checkGaps(t, x)
				checkBoxes(t, x, 1, 1)
				checkBoxes(t, x, 2, 2)
			}
		}
	}
}

// TestBoxesWhere has all numbers of rules from less than none to more than there are, and such that none is between.
func TestBoxesWhere(t *testing.T) {
	for i, x := range smallTables() {
		if i%3 > 0 && len(x.Columns) > 2 {
			continue
		}
		count := len(x.Rules)
		for _, least := range []int{math.MinInt, -100, -1, 0, 1, 2, 3, count / 2, count - 1, count, count + 1, 100, math.MaxInt} {
			for _, most := range []int{math.MinInt, -100, -1, 0, 1, 2, 3, count / 2, count - 1, count, count + 1, 100, math.MaxInt} {
				checkBoxes(t, x, least, most)
			}
		}
	}
}

// TestBoxesWhereOfMatches divides the inputs of a table by how many rules match.
func TestBoxesWhereOfMatches(t *testing.T) {
	columns := columnsOf(numbers(0, 13), letters(1))
	x := tableOf(5, columns)
	for n := range 12 {
		x.Rules = append(x.Rules, rule(n, row(n+1, 13), row(0, 1)))
	}
	for n := range 12 {
		boxes, ok := impl.BoxesWhere(x, n, n)
		if want := [][]impl.Span{row(n, n, 0, 1)}; !ok || !boxesSame(boxes, want) {
			t.Errorf("BoxesWhere(%d, %d) = %v, %v, want %v", n, n, boxes, ok, want)
		}
		boxes, ok = impl.BoxesWhere(x, n, 12)
		if want := [][]impl.Span{row(n, 13, 0, 1)}; !ok || !boxesSame(boxes, want) {
			t.Errorf("BoxesWhere(%d, 12) = %v, %v, want %v", n, boxes, ok, want)
		}
	}
	whole := [][]impl.Span{row(0, 13, 0, 1)}
	cases := map[[2]int][][]impl.Span{
		{12, 12}: {row(12, 13, 0, 1)}, {3, 5}: {row(3, 5, 0, 1)}, {0, 12}: whole, {-5, 100}: whole, {math.MinInt, math.MaxInt}: whole, {11, math.MaxInt}: {row(11, 13, 0, 1)}, {math.MinInt, 1}: {row(0, 1, 0, 1)},
		{13, 13}: nil, {13, 12}: nil, {5, 3}: nil, {1, 0}: nil, {-2, -1}: nil, {-1, -1}: nil, {13, math.MaxInt}: nil, {math.MinInt, -1}: nil, {math.MaxInt, math.MinInt}: nil, {math.MaxInt, math.MaxInt}: nil, {1 << 32, 1<<32 + 12}: nil,
	}
	for ends, want := range cases {
		if boxes, ok := impl.BoxesWhere(x, ends[0], ends[1]); !ok || !boxesSame(boxes, want) {
			t.Errorf("BoxesWhere(%v) = %v, %v, want %v", ends, boxes, ok, want)
		}
	}
}

// TestGapExamples has tables with their gaps written out, in order.
func TestGapExamples(t *testing.T) {
	cases := map[string]string{
		"U 0..9 A..B\n0..4;A:1\n0..4;B:2\n6..9;A:3\n": "5;- 6..9;B",
		"U 0..9\n":                                         "-",
		"U 7..7\n":                                         "-",
		"F 0..9 A..C -5..5 -99..99\n":                      "-;-;-;-",
		"F 0..9 A..C\n-;-:1\n":                             "",
		"F 0..9 A..C\n;:1\n":                               "-;-",
		"U 0..9\n-:1\n":                                    "",
		"U 0..9\n:1\n:2\n":                                 "-",
		"U 0..9\n<5:1\n>=5:2\n":                            "",
		"U 0..9\n<5:1\n>5:2\n":                             "5",
		"U 0..9\n0:1\n9:2\n":                               "1..8",
		"U 0..9\n1..8:1\n":                                 "0 9",
		"U 0..9\n1,3,5,7,9:1\n":                            "0 2 4 6 8",
		"U A..E\nB,D:1\n":                                  "A C E",
		"U -99..99\n-98..98:1\n":                           "-99 99",
		"U 0..9\n2:1\n3:2\n7..8:3\n":                       "0..1 4..6 9",
		"U 0..3 0..3\n0..1;0..1:1\n2..3;2..3:2\n":          "0..1;2..3 2..3;0..1",
		"U 0..3 0..3\n0..1;0..1:1\n":                       "0..1;2..3 2..3;-",
		"U 0..3 0..3\n2..3;2..3:1\n":                       "0..1;- 2..3;0..1",
		"U 0..3 0..3\n1..2;1..2:1\n":                       "0;- 1..2;0 1..2;3 3;-",
		"U 0..3 0..3\n0;0:1\n1;1:1\n2;2:1\n3;3:1\n":        "0;1..3 1;0 1;2..3 2;0..1 2;3 3;0..2",
		"U 0..3 0..3\n0;-:1\n-;0:1\n":                      "1..3;1..3",
		"U 0..3 0..3\n1;-:1\n-;1:1\n":                      "0;0 0;2..3 2..3;0 2..3;2..3",
		"U 0..3 0..3\n-;1..2:1\n":                          "-;0 -;3",
		"U 0..3 0..3\n1..2;-:1\n":                          "0;- 3;-",
		"U 0..5 A..B\n1;A:1\n3;A:1\n":                      "0;- 1;B 2;- 3;B 4..5;-",
		"U 0..5 A..B\n1..2;A:1\n3..4;A:2\n":                "0;- 1..4;B 5;-",
		"U 0..5 A..B\n1..2;A:1\n3..4;B:2\n":                "0;- 1..2;B 3..4;A 5;-",
		"U 0..5 A..B\n1..2;A:1\n3..4;A,B:2\n":              "0;- 1..2;B 5;-",
		"F 0..5 A..C\n0..3;A:1\n2..5;A:2\n3;A:3\n":         "-;B..C",
		"F 0..5 A..C\n0..1;A:1\n4..5;A:2\n2..3;B..C:3\n":   "0..1;B..C 2..3;A 4..5;B..C",
		"F 0..1 A..B 5..6\n0;A;5:1\n1;B;6:2\n":             "0;A;6 0;B;- 1;A;- 1;B;5",
		"F 0..1 A..B 5..6 -2..-1\n0;A;5;-2:1\n":            "0;A;5;-1 0;A;6;- 0;B;-;- 1;-;-;-",
		"F 0..1 A..B 5..6 -2..-1\n-;-;5;-:1\n-;A;-;-2:2\n": "-;A;6;-1 -;B;6;-",
	}
	for text, want := range cases {
		x, _ := impl.ParseTable(text)
		gaps, ok := impl.GapBoxes(x)
		if got := boxTexts(x.Columns, gaps); !ok || got != want {
			t.Errorf("GapBoxes(%q) = %s, %v, want %s", text, got, ok, want)
		}
		if got, ok := impl.GapSize(x); !ok || got != impl.BoxesSize(gaps) {
			t.Errorf("GapSize(%q) = %d, %v", text, got, ok)
		}
		if got := impl.IsComplete(x); got != (want == "") {
			t.Errorf("IsComplete(%q) = %v", text, got)
		}
		if impl.InputsOf(x) <= 1000 {
			checkGaps(t, x)
		}
	}
}

// TestJoins has cuts that follow each other, with boxes that differ in number, in order or in one column only.
func TestJoins(t *testing.T) {
	cases := map[string]string{
		"R 0..5 0..5\n0..1;0..1:1\n2..3;0..1:2\n4..5;0..1:3\n":                "-;0..1",
		"R 0..5 0..5\n0..1;0..1:1\n2..3;0..2:2\n4..5;0..1:3\n":                "0..1;0..1 2..3;0..2 4..5;0..1",
		"R 0..5 0..5\n0..1;0..1,3:1\n2..3;0..1:2\n":                           "0..1;0..1 0..1;3 2..3;0..1",
		"R 0..5 0..5\n0..1;0..1:1\n2..3;0..1,3:2\n":                           "0..1;0..1 2..3;0..1 2..3;3",
		"R 0..5 0..5\n0..1;0..1,3:1\n2..3;3:2\n2..3;0:3\n2..3;1:4\n":          "0..3;0..1 0..3;3",
		"R 0..5 0..5\n0..1;0..1:1\n4..5;0..1:2\n":                             "0..1;0..1 4..5;0..1",
		"R 0..5 0..5\n0..2;0..1:1\n2..3;0..1:1\n3..5;0..1:1\n":                "-;0..1",
		"R 0..5 0..5\n0..1;0..1:1\n2..3;2..3:2\n4..5;4..5:3\n":                "0..1;0..1 2..3;2..3 4..5;4..5",
		"R 0..5 0..5\n0..1;0..1:1\n2..3;3..4:2\n":                             "0..1;0..1 2..3;3..4",
		"R 0..5 0..1 0..5\n0..1;-;0..1:1\n2..3;0;0..1:2\n2..3;1;0..1:3\n":     "0..3;-;0..1",
		"R 0..5 0..1 0..5\n0..1;-;0..1:1\n2..3;0;0..1:2\n2..3;1;0..2:3\n":     "0..1;-;0..1 2..3;0;0..1 2..3;1;0..2",
		"R 0..5 0..1 0..5\n0..1;0;0..1:1\n2..3;0;0..1:2\n2..3;1;0..1:3\n":     "0..1;0;0..1 2..3;-;0..1",
		"R 0..5 0..1 0..5\n0..1;0;0..1:1\n2..3;1;0..1:2\n4..5;1;0..1:3\n":     "0..1;0;0..1 2..5;1;0..1",
		"R -9..9 0..9\n-9..-1;5:1\n0;5:2\n1..9;5:3\n":                         "-;5",
		"R -9..9 0..9\n-9..-1;5:1\n1..9;5:3\n":                                "-9..-1;5 1..9;5",
		"R 0..9\n0..2:1\n3..5:2\n6..9:3\n":                                    "-",
		"R 0..9\n0..2:1\n4..5:2\n6..9:3\n":                                    "0..2 4..9",
		"R 0..9\n0..4:1\n3..9:2\n":                                            "-",
		"R 0..6 0..6\n0..3;0..3:1\n3..6;3..6:2\n":                             "0..2;0..3 3;- 4..6;3..6",
		"R 0..6 0..6\n0..3;0..3:1\n4..6;4..6:2\n":                             "0..3;0..3 4..6;4..6",
		"R 0..6 A..A 0..6 0..0\n0..3;A;0..3;0:1\n3..6;A;3..6;0:2\n":           "0..2;-;0..3;- 3;-;-;- 4..6;-;3..6;-",
		"R 0..1 0..1 0..1 0..1\n0;0;-;0:1\n0;1;0;0:2\n0;1;1;0:3\n1;-;-;0:4\n": "-;-;-;0",
	}
	for text, want := range cases {
		x, _ := impl.ParseTable(text)
		boxes, ok := impl.BoxesWhere(x, 1, 12)
		if got := boxTexts(x.Columns, boxes); !ok || got != want {
			t.Errorf("BoxesWhere(%q, 1, 12) = %s, %v, want %s", text, got, ok, want)
		}
		for most := range 4 {
			checkBoxes(t, x, 1, most)
		}
		checkGaps(t, x)
	}
}

// TestGapsOfColumns has columns at the limits, without rules, with a rule for all values, and with one for all values but one.
func TestGapsOfColumns(t *testing.T) {
	for _, c := range goodColumns() {
		whole := row(c.Lo, c.Hi)
		for _, rules := range [][]impl.Rule{nil, {rule(1, nil)}, manyRules(12, nil)} {
			checkOneGap(t, tableOf(4, columnsOf(c), rules...), whole)
		}
		for _, rules := range [][]impl.Rule{{rule(1, whole)}, {rule(1, nil), rule(2, whole)}, manyRules(12, whole)} {
			checkOneGap(t, tableOf(4, columnsOf(c), rules...))
		}
		for at := c.Lo; at <= c.Hi; at++ {
			others, _ := impl.SetMinus(whole, row(at, at))
			checkOneGap(t, tableOf(4, columnsOf(c), rule(1, others)), row(at, at))
		}
	}
}

// checkOneGap checks a table with one column, and the gaps that are told.
func checkOneGap(t *testing.T, x impl.Table, want ...[]impl.Span) {
	t.Helper()
	gaps, ok := impl.GapBoxes(x)
	if !ok || !boxesSame(gaps, want) {
		t.Errorf("GapBoxes(%q) = %v, %v, want %v", impl.FormatTable(x), gaps, ok, want)
	}
	first, ok := impl.FirstGap(x)
	if ok != (len(want) == 1) || ok && (len(first) != 1 || first[0] != want[0][0].Lo) {
		t.Errorf("FirstGap(%q) = %v, %v", impl.FormatTable(x), first, ok)
	}
	if got := impl.IsComplete(x); got == ok {
		t.Errorf("IsComplete(%q) = %v", impl.FormatTable(x), got)
	}
	size, ok := impl.GapSize(x)
	if want := impl.BoxesSize(want); !ok || size != want {
		t.Errorf("GapSize(%q) = %d, %v, want %d", impl.FormatTable(x), size, ok, want)
	}
}

// TestGapsWithManyInputs has few cells with more inputs than can be looked at.
func TestGapsWithManyInputs(t *testing.T) {
	wide := numbers(impl.MinNum, impl.MaxNum)
	x := tableOf(4, columnsOf(wide, wide, wide, wide))
	if got, ok := impl.GapSize(x); !ok || got != 199*199*199*199 {
		t.Errorf("GapSize = %d, %v without rules", got, ok)
	}
	x.Rules = []impl.Rule{rule(1, row(0, 0), row(1, 1), row(2, 2), row(3, 3))}
	want := [][]impl.Span{
		row(-99, -1, -99, 99, -99, 99, -99, 99), row(0, 0, -99, 0, -99, 99, -99, 99), row(0, 0, 1, 1, -99, 1, -99, 99), row(0, 0, 1, 1, 2, 2, -99, 2), row(0, 0, 1, 1, 2, 2, 4, 99),
		row(0, 0, 1, 1, 3, 99, -99, 99), row(0, 0, 2, 99, -99, 99, -99, 99), row(1, 99, -99, 99, -99, 99, -99, 99),
	}
	if got, ok := impl.GapBoxes(x); !ok || !boxesSame(got, want) {
		t.Errorf("GapBoxes = %v, %v, want %v", got, ok, want)
	}
	if got, ok := impl.GapSize(x); !ok || got != 199*199*199*199-1 {
		t.Errorf("GapSize = %d, %v beside one input", got, ok)
	}
	if got, ok := impl.FirstGap(x); !ok || !slices.Equal(got, []int{-99, -99, -99, -99}) {
		t.Errorf("FirstGap = %v, %v", got, ok)
	}
	if got, ok := impl.FillGaps(x, 99); !ok || len(got.Rules) != 9 || !impl.IsComplete(got) || !impl.TableSame(tableOf(4, x.Columns, got.Rules[0]), x) {
		t.Errorf("FillGaps = %v, %v", got, ok)
	}
	x.Rules[0].Tests[0] = row(-99, 99)
	if got, ok := impl.FirstGap(x); !ok || !slices.Equal(got, []int{-99, -99, -99, -99}) {
		t.Errorf("FirstGap = %v, %v", got, ok)
	}
	x.Rules = append(x.Rules, rule(2, row(-99, 99), row(-99, 99), row(-99, 99), row(-99, 97)))
	if got, ok := impl.FirstGap(x); !ok || !slices.Equal(got, []int{-99, -99, -99, 98}) {
		t.Errorf("FirstGap = %v, %v", got, ok)
	}
	if got, ok := impl.GapSize(x); !ok || got != 199*199*199*2 {
		t.Errorf("GapSize = %d, %v", got, ok)
	}
}

// TestMostGaps has tables with exactly MaxCells cells, and with fewer, of which each other one is wanted.
func TestMostGaps(t *testing.T) {
	for _, widths := range [][]int{{125, 160}, {160, 125}, {1, 125, 160}, {20, 10, 100}, {10, 10, 10, 20}, {101, 198}, {199}, {7}} {
		x := fineTable(widths...)
		for _, ends := range [][2]int{{0, 0}, {1, 12}, {0, 12}, {2, 12}, {13, 13}} {
			want := wantBoxes(x, ends[0], ends[1])
			if got, ok := impl.BoxesWhere(x, ends[0], ends[1]); !ok || !boxesSame(got, want) {
				t.Errorf("BoxesWhere(%v, %v) has %d boxes, %v, want %d", widths, ends, len(got), ok, len(want))
			}
		}
		want := wantBoxes(x, 0, 0)
		if got, ok := impl.GapBoxes(x); !ok || !boxesSame(got, want) {
			t.Errorf("GapBoxes(%v) has %d boxes, %v, want %d", widths, len(got), ok, len(want))
		}
		size := 0
		for _, box := range want {
			size += impl.BoxSize(box)
		}
		if got, ok := impl.GapSize(x); !ok || got != size {
			t.Errorf("GapSize(%v) = %d, %v, want %d", widths, got, ok, size)
		}
		if got, ok := impl.FirstGap(x); ok != (size > 0) || ok && len(wantMatches(x, got)) > 0 {
			t.Errorf("FirstGap(%v) = %v, %v", widths, got, ok)
		}
		if impl.IsComplete(x) != (size == 0) {
			t.Errorf("IsComplete(%v) = %v", widths, size > 0)
		}
		checkNoFill(t, fmt.Sprint(widths), x, 0)
	}
	x := fineTable(125, 160)
	x.Rules[11] = rule(0, row(x.Columns[0].Lo, x.Columns[0].Hi), row(x.Columns[1].Lo, x.Columns[1].Hi))
	if got, ok := impl.FillGaps(x, 5); !ok || !impl.TableSame(got, x) || !impl.IsComplete(x) {
		t.Errorf("FillGaps = %v, %v for a complete table with many cells", got, ok)
	}
}

// TestTooManyCellsForGaps has tables with one cell too many, and with more, with gaps and complete.
func TestTooManyCellsForGaps(t *testing.T) {
	for _, widths := range [][]int{{3, 59, 113}, {113, 59, 3, 1}, {142, 141}, {101, 199}, {199, 199}, {199, 199, 199}, {199, 199, 199, 199}, {12, 12, 12, 12}, {20, 10, 10, 11}} {
		x := fineTable(widths...)
		checkNoGaps(t, fmt.Sprint(widths), x)
		x.Rules[11] = rule(0)
		for _, c := range x.Columns {
			x.Rules[11].Tests = append(x.Rules[11].Tests, row(c.Lo, c.Hi))
		}
		// The last rule divided no column.
		checkFineCuts(t, x)
		checkNoGaps(t, fmt.Sprint("complete ", widths), x)
	}
}

// tableWithGaps is a table with as many rules, of which the first one leaves as many single values out, and the others match nothing. A set has only 12 spans, so the last one of 12 values is at the end.
func tableWithGaps(rules, gaps int) impl.Table {
	hi := 2 * max(gaps, 1)
	if gaps == 12 {
		hi = 23
	}
	x := tableOf(4, columnsOf(numbers(0, hi), letters(3)), manyRules(rules, nil, row(0, 3))...)
	x.Rules[0].Tests[0], _ = impl.SetMinus(row(0, hi), singles(gaps, 1))
	return x
}

// TestFillLimits has tables with none to twelve rules, and as many gaps as fit or one more.
func TestFillLimits(t *testing.T) {
	for rules := 1; rules <= 12; rules++ {
		for gaps := 0; gaps <= 12; gaps++ {
			x := tableWithGaps(rules, gaps)
			got, ok := impl.FillGaps(x, 99)
			if ok != (rules+gaps <= 12) || ok && len(got.Rules) != rules+gaps || !ok && show(got) != show(impl.Table{}) {
				t.Errorf("FillGaps(%q) = %v, %v for %d rules and %d gaps", impl.FormatTable(x), got, ok, rules, gaps)
			}
			if boxes, ok := impl.GapBoxes(x); !ok || len(boxes) != gaps {
				t.Errorf("GapBoxes(%q) = %v, %v, want %d", impl.FormatTable(x), boxes, ok, gaps)
			}
			checkFill(t, x, 0)
		}
	}
	cases := map[string]string{
		"F 0..9\n": "F 0..9\n-:99\n",
		"U 0..9 A..B\n0..4;A:1\n0..4;B:2\n6..9;A:3\n":     "U 0..9 A..B\n0..4;A:1\n0..4;B:2\n6..9;A:3\n5;-:99\n6..9;B:99\n",
		"O A..C\n:0\n" + strings.Repeat("B:7\n", 9):       "O A..C\n:0\n" + strings.Repeat("B:7\n", 9) + "A:99\nC:99\n",
		"O A..C\n:0\n" + strings.Repeat("B:7\n", 10):      "",
		"# A..C\n" + strings.Repeat("A..B:7\n", 11):       "# A..C\n" + strings.Repeat("A..B:7\n", 11) + "C:99\n",
		"# A..C\n" + strings.Repeat("A..B:7\n", 12):       "",
		"# A..C\n" + strings.Repeat("-:7\n", 12):          "# A..C\n" + strings.Repeat("-:7\n", 12),
		"+ 0..24\n1,3,5,7,9,11,13,15,17,19,21,23..24:3\n": "",
		"+ 0..20\n1,3,5,7,9,11,13,15,17,19..20:3\n":       "+ 0..20\n1,3,5,7,9,11,13,15,17,19..20:3\n0:99\n2:99\n4:99\n6:99\n8:99\n10:99\n12:99\n14:99\n16:99\n18:99\n",
		"+ 0..21\n1,3,5,7,9,11,13,15,17,19,21:3\n":        "+ 0..21\n1,3,5,7,9,11,13,15,17,19,21:3\n0:99\n2:99\n4:99\n6:99\n8:99\n10:99\n12:99\n14:99\n16:99\n18:99\n20:99\n",
		"+ 0..22\n1,3,5,7,9,11,13,15,17,19,21:3\n":        "",
		"< 0..1 A..B 5..6 -2..-1\n0;A;5;-2:1\n":           "< 0..1 A..B 5..6 -2..-1\n0;A;5;-2:1\n0;A;5;-1:99\n0;A;6;-:99\n0;B;-;-:99\n1;-;-;-:99\n",
		"U -99..99\n-98..98:1\n":                          "U -99..99\n-98..98:1\n-99:99\n99:99\n",
		"A 7..7 A..A\n;-:3\n":                             "A 7..7 A..A\n;-:3\n-;-:99\n",
	}
	for text, want := range cases {
		x, isTable := impl.ParseTable(text)
		got, ok := impl.FillGaps(x, 99)
		if !isTable || ok != (want != "") || impl.FormatTable(got) != want {
			t.Errorf("FillGaps(%q, 99) = %q, %v, want %q", text, impl.FormatTable(got), ok, want)
		}
	}
}

// TestFillRefuses has outputs that no rule has, for tables with gaps and for complete ones.
func TestFillRefuses(t *testing.T) {
	for text, x := range goodTables() {
		for _, out := range noOutputs() {
			checkNoFill(t, text, x, out)
		}
	}
	complete := tableOf(1, columnsOf(numbers(0, 9)), rule(1, row(0, 9)))
	for _, out := range noOutputs() {
		checkNoFill(t, "complete table", complete, out)
	}
	for _, out := range []int{0, 1, 50, 98, 99} {
		if got, ok := impl.FillGaps(complete, out); !ok || !impl.TableSame(got, complete) {
			t.Errorf("FillGaps(%d) = %v, %v for a complete table", out, got, ok)
		}
		want := tableOf(1, columnsOf(numbers(0, 9)), rule(out, row(0, 9)))
		if got, ok := impl.FillGaps(tableOf(1, columnsOf(numbers(0, 9))), out); !ok || !impl.TableSame(got, want) {
			t.Errorf("FillGaps(%d) = %v, %v for a table without rules", out, got, ok)
		}
	}
}

// TestGapsRefuse has tables that are not valid.
func TestGapsRefuse(t *testing.T) {
	for name, x := range badTables() {
		checkNoGaps(t, name, x)
	}
}

// TestBoxesSize has lists with boxes, also such that have inputs together, and with lists of spans that are none.
func TestBoxesSize(t *testing.T) {
	var list [][]impl.Span
	want := 0
	check := func() {
		t.Helper()
		if got := impl.BoxesSize(list); got != want {
			t.Errorf("BoxesSize = %d for %d boxes, want %d", got, len(list), want)
		}
	}
	check()
	list = [][]impl.Span{}
	check()
	for _, c := range goodBoxes() {
		list, want = append(list, c.box, c.box), want+2*c.size
		check()
	}
	for name, box := range badBoxes() {
		if got := impl.BoxesSize([][]impl.Span{box}); got != 0 {
			t.Errorf("%.100s: BoxesSize = %d", name, got)
		}
		list = append(list, box)
		check()
	}
	list, want = append(list, row(1, 2)), want+2
	check()
}

// TestBoxesSizeLimit has lists with as many elements as count, and with more.
func TestBoxesSizeLimit(t *testing.T) {
	pair, many := row(1, 2), row(-99, 99, -99, 99, -99, 99, -99, 99)
	cases := []struct {
		list [][]impl.Span
		want int
	}{
		{slices.Repeat([][]impl.Span{pair}, 19999), 39998},
		{slices.Repeat([][]impl.Span{pair}, 20000), 40000},
		{slices.Repeat([][]impl.Span{pair}, 20001), 40000},
		{slices.Repeat([][]impl.Span{pair}, 50000), 40000},
		{append(slices.Repeat([][]impl.Span{pair}, 20000), many), 40000},
		{append(slices.Repeat([][]impl.Span{pair}, 19999), many), 39998 + 1568239201},
		{append(slices.Repeat([][]impl.Span{nil}, 19999), pair, pair), 2},
		{append(slices.Repeat([][]impl.Span{nil}, 20000), pair, pair), 0},
		{append([][]impl.Span{row(2, 1)}, slices.Repeat([][]impl.Span{pair}, 20000)...), 39998},
		{slices.Repeat([][]impl.Span{many}, 20000), 20000 * 1568239201},
		{slices.Repeat([][]impl.Span{many}, 20001), 20000 * 1568239201},
	}
	for _, c := range cases {
		if got := impl.BoxesSize(c.list); got != c.want {
			t.Errorf("BoxesSize = %d for %d elements, want %d", got, len(c.list), c.want)
		}
	}
}

// TestGapsShareNoMemory writes over each result, also behind its end, and looks at the others, at the table, and at new results.
func TestGapsShareNoMemory(t *testing.T) {
	for text, x := range goodTables() {
		gaps, _ := impl.GapBoxes(x)
		ones, _ := impl.BoxesWhere(x, 1, 12)
		boxes := append(slices.Clip(gaps), ones...)
		kept := fmt.Sprint(boxes)
		for i, box := range boxes {
			boxes[i] = nil
			others := fmt.Sprint(boxes)
			for k := range box[:cap(box)] {
				box[:cap(box)][k] = impl.Span{Lo: 88, Hi: 88}
			}
			if fmt.Sprint(boxes) != others {
				t.Fatalf("box %d of %q shares memory", i, text)
			}
		}
		for _, list := range [][][]impl.Span{gaps, ones} {
			for i := range list[:cap(list)] {
				list[:cap(list)][i] = nil
			}
		}
		gaps, _ = impl.GapBoxes(x)
		ones, _ = impl.BoxesWhere(x, 1, 12)
		if fmt.Sprint(append(slices.Clip(gaps), ones...)) != kept || impl.FormatTable(x) != text {
			t.Fatalf("boxes of %q share memory with the table, or with new boxes", text)
		}
		first, _ := impl.FirstGap(x)
		second, _ := impl.FirstGap(x)
		for k := range first[:cap(first)] {
			first[:cap(first)][k] = 88
		}
		if third, _ := impl.FirstGap(x); !slices.Equal(second, third) || fmt.Sprint(append(slices.Clip(gaps), ones...)) != kept {
			t.Fatalf("inputs of %q share memory", text)
		}
	}
}

// TestFillSharesNoMemory writes over filled tables, as a whole, and each test of a rule for itself.
func TestFillSharesNoMemory(t *testing.T) {
	texts := []string{"U 0..9 A..B\n0..4;A:1\n0..4;B:2\n6..9;A:3\n", "F 0..9 A..C\n-;-:1\n", "U 0..9\n", "+ 0..20\n1,3,5,7,9,11,13,15,17,19..20:3\n", "< 0..1 A..B 5..6 -2..-1\n0;A;5;-2:1\n"}
	for _, text := range texts {
		x, _ := impl.ParseTable(text)
		first, ok := impl.FillGaps(x, 9)
		second, _ := impl.FillGaps(x, 9)
		kept := show(second)
		spoil(first)
		third, _ := impl.FillGaps(x, 9)
		if !ok || show(second) != kept || show(third) != kept || impl.FormatTable(x) != text {
			t.Errorf("FillGaps(%q) shares memory", text)
		}
		checkTestsApart(t, fmt.Sprintf("FillGaps(%q)", text), second)
		spoil(x)
		if show(third) != kept {
			t.Errorf("FillGaps(%q) shares memory with the table", text)
		}
	}
}

// TestGapsKeepArguments checks that tables and lists of boxes stay as they are, also behind their ends.
func TestGapsKeepArguments(t *testing.T) {
	whole := tableOf(1, columnsOf(numbers(0, 9), letters(2), numbers(77, 77)), rule(1, row(0, 2, 4, 4, 6, 9), row(0, 1)), rule(2, row(5, 6), row(0, 2)), rule(3))
	kept := cloneTable(whole)
	x := impl.Table{Columns: whole.Columns[:2], Policy: 1, Rules: whole.Rules[:2]}
	x.Rules[0].Tests[0] = x.Rules[0].Tests[0][:2]
	gaps, ok := impl.GapBoxes(x)
	if got := boxTexts(x.Columns, gaps); !ok || got != "0..2;C 3;- 4;C 7..9;-" {
		t.Errorf("GapBoxes = %s, %v", got, ok)
	}
	if got, ok := impl.GapSize(x); !ok || got != 16 {
		t.Errorf("GapSize = %d, %v", got, ok)
	}
	if got, ok := impl.FirstGap(x); !ok || !slices.Equal(got, []int{0, 2}) || impl.IsComplete(x) {
		t.Errorf("FirstGap = %v, %v", got, ok)
	}
	if got, ok := impl.FillGaps(x, 9); !ok || impl.FormatTable(got) != "U 0..9 A..C\n0..2,4;A..B:1\n5..6;-:2\n0..2;C:9\n3;-:9\n4;C:9\n7..9;-:9\n" {
		t.Errorf("FillGaps = %q, %v", impl.FormatTable(got), ok)
	}
	list := [][]impl.Span{row(1, 2, 3, 4, 77, 77)[:2], row(5, 5), row(77, 77)}
	if got := impl.BoxesSize(list[:2]); got != 5 {
		t.Errorf("BoxesSize = %d", got)
	}
	x.Rules[0].Tests[0] = x.Rules[0].Tests[0][:3]
	if show(whole) != show(kept) || fmt.Sprint(list[0][:3], list[1:]) != fmt.Sprint(row(1, 2, 3, 4, 77, 77), [][]impl.Span{row(5, 5), row(77, 77)}) {
		t.Errorf("the table is %v, and the list %v", whole, list)
	}
}
