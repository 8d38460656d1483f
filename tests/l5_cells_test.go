package tests

import (
	"fmt"
	"math"
	"slices"
	"strings"
	"testing"

	"loop.example/decisiontables/impl"
)

// boxCase is a box, how many inputs it has, and the first of them.
type boxCase struct {
	box   []impl.Span
	size  int
	first []int
}

// goodBoxes are boxes with one to four spans, at the limits and in between.
func goodBoxes() []boxCase {
	return []boxCase{
		{row(0, 0), 1, []int{0}}, {row(7, 7), 1, []int{7}}, {row(-3, 4), 8, []int{-3}}, {row(-9, -8), 2, []int{-9}},
		{row(-99, -99), 1, []int{-99}}, {row(99, 99), 1, []int{99}}, {row(-99, 99), 199, []int{-99}}, {row(0, 99), 100, []int{0}}, {row(-99, 0), 100, []int{-99}},
		{row(3, 5, 0, 1), 6, []int{3, 0}}, {row(0, 1, 3, 5), 6, []int{0, 3}}, {row(5, 5, -5, -5), 1, []int{5, -5}}, {row(-99, -99, 99, 99), 1, []int{-99, 99}},
		{row(1, 2, 1, 2), 4, []int{1, 1}}, {row(1, 3, 4, 6, 2, 2), 9, []int{1, 4, 2}}, {row(4, 6, 1, 3, -1, 0), 18, []int{4, 1, -1}},
		{row(1, 1, 1, 1, 1, 1, 1, 1), 1, []int{1, 1, 1, 1}}, {row(0, 1, 0, 2, 0, 3, 0, 4), 120, []int{0, 0, 0, 0}}, {row(9, 9, -4, -2, 98, 99, -99, -98), 12, []int{9, -4, 98, -99}},
		{row(-99, 99, -99, 99), 39601, []int{-99, -99}}, {row(-99, 99, -99, 99, -99, 99), 7880599, []int{-99, -99, -99}}, {row(-99, 99, -99, 99, -99, 99, -99, 99), 1568239201, []int{-99, -99, -99, -99}},
	}
}

// badBoxes are lists of spans that are no boxes: no spans, too many, and each bad span at each place of one to four.
func badBoxes() map[string][]impl.Span {
	list := map[string][]impl.Span{
		"nil":               nil,
		"no spans":          {},
		"5 spans":           row(0, 0, 0, 0, 0, 0, 0, 0, 0, 0),
		"5 other spans":     row(1, 3, 1, 3, 1, 3, 1, 3, 1, 3),
		"13 spans":          singles(13, 0),
		"10000 spans":       slices.Repeat(row(1, 2), 10000),
		"5 spans, last bad": row(0, 0, 0, 0, 0, 0, 0, 0, 1, 0),
	}
	bad := row(1, 0, 9, -9, 99, -99, -100, 0, -100, -100, 0, 100, 100, 100, -100, 100, 100, -100, -1000, -999, math.MinInt, math.MaxInt, math.MaxInt, math.MinInt, 0, math.MaxInt, math.MinInt, 0, math.MinInt, math.MinInt, math.MaxInt, math.MaxInt, 1<<32, 1<<32, 1<<32, 1<<32+1)
	for _, x := range bad {
		for count := 1; count <= 4; count++ {
			for at := range count {
				box := slices.Repeat(row(0, 1), count)
				box[at] = x
				list[fmt.Sprint(box)] = box
			}
		}
	}
	return list
}

// columnsOfBox are columns with the values of the spans of a box.
func columnsOfBox(box []impl.Span) []impl.Column {
	var list []impl.Column
	for _, x := range box {
		list = append(list, numbers(x.Lo, x.Hi))
	}
	return list
}

func TestBoxes(t *testing.T) {
	for _, c := range goodBoxes() {
		if got := impl.BoxSize(c.box); got != c.size {
			t.Errorf("BoxSize(%v) = %d, want %d", c.box, got, c.size)
		}
		if got, ok := impl.BoxFirst(c.box); !ok || !slices.Equal(got, c.first) {
			t.Errorf("BoxFirst(%v) = %v, %v, want %v", c.box, got, ok, c.first)
		}
		if c.size > 200 {
			continue
		}
		count := 0
		allInputs(columnsOfBox(c.box), func(in []int) {
			if !impl.BoxHas(c.box, in) {
				t.Errorf("BoxHas(%v, %v) = false", c.box, in)
			}
			if count == 0 && !slices.Equal(in, c.first) {
				t.Errorf("%v is the first input of %v", in, c.box)
			}
			count++
		})
		if count != c.size {
			t.Errorf("%v has %d inputs, want %d", c.box, count, c.size)
		}
	}
}

// TestBoxHas has numbers next to the ends of each span, and lists that are too short or too long.
func TestBoxHas(t *testing.T) {
	for _, c := range goodBoxes() {
		for k, x := range c.box {
			for _, n := range []int{x.Lo, x.Hi, (x.Lo + x.Hi) / 2, x.Lo - 1, x.Hi + 1, x.Lo - 100, x.Hi + 100, math.MinInt, math.MaxInt, x.Lo + 1<<32, x.Lo + 256} {
				in := slices.Clone(c.first)
				in[k] = n
				if want := x.Lo <= n && n <= x.Hi; impl.BoxHas(c.box, in) != want {
					t.Errorf("BoxHas(%v, %v) = %v", c.box, in, !want)
				}
			}
		}
		for _, in := range [][]int{nil, {}, c.first[:len(c.first)-1], append(slices.Clone(c.first), 0), append(slices.Clone(c.first), c.first...), make([]int, 1000)} {
			if impl.BoxHas(c.box, in) {
				t.Errorf("BoxHas(%v, %v) = true", c.box, in)
			}
		}
	}
	box := row(-1, 1, 2, 3)
	for a := -3; a <= 3; a++ {
		for b := 0; b <= 5; b++ {
			if want := -1 <= a && a <= 1 && 2 <= b && b <= 3; impl.BoxHas(box, []int{a, b}) != want {
				t.Errorf("BoxHas(%v, {%d, %d}) = %v", box, a, b, !want)
			}
		}
	}
}

func TestBadBoxes(t *testing.T) {
	for name, box := range badBoxes() {
		if got := impl.BoxSize(box); got != 0 {
			t.Errorf("%.100s: BoxSize = %d", name, got)
		}
		if got, ok := impl.BoxFirst(box); ok || len(got) != 0 {
			t.Errorf("%.100s: BoxFirst = %v, %v", name, got, ok)
		}
		var los, his []int
		for _, x := range box {
			los, his = append(los, x.Lo), append(his, x.Hi)
		}
		for _, in := range [][]int{nil, {}, {0}, {1}, los, his, make([]int, len(box))} {
			if impl.BoxHas(box, in) {
				t.Errorf("%.100s: BoxHas(%v) = true", name, in)
			}
		}
	}
}

// alike tells whether each rule has all numbers from lo to hi in its test of the column k, or none.
func alike(x impl.Table, k, lo, hi int) bool {
	for _, r := range x.Rules {
		count := 0
		for n := lo; n <= hi; n++ {
			if slices.ContainsFunc(r.Tests[k], func(s impl.Span) bool { return s.Lo <= n && n <= s.Hi }) {
				count++
			}
		}
		if count != 0 && count != hi-lo+1 {
			return false
		}
	}
	return true
}

// wantCuts are the spans of values that are alike, and of which no longer one is.
func wantCuts(x impl.Table, k int) []impl.Span {
	var cuts []impl.Span
	c := x.Columns[k]
	for lo := c.Lo; lo <= c.Hi; lo++ {
		for hi := lo; hi <= c.Hi && alike(x, k, lo, hi); hi++ {
			longer := lo > c.Lo && alike(x, k, lo-1, hi) || hi < c.Hi && alike(x, k, lo, hi+1)
			if !longer {
				cuts = append(cuts, impl.Span{Lo: lo, Hi: hi})
			}
		}
	}
	return cuts
}

// wantCells are the cells, in order.
func wantCells(x impl.Table) [][]impl.Span {
	cells := [][]impl.Span{{}}
	for k := range x.Columns {
		var longer [][]impl.Span
		for _, cell := range cells {
			for _, cut := range wantCuts(x, k) {
				longer = append(longer, append(slices.Clone(cell), cut))
			}
		}
		cells = longer
	}
	return cells
}

// noIndices are numbers of no element of a list.
func noIndices(count int) []int {
	return []int{-1, -2, -count, -count - 1, count, count + 1, 2*count + 1, impl.MaxCells, impl.MaxCells + 1, math.MinInt, math.MaxInt, 1 << 32, -1 << 32, 1<<32 + count}
}

// checkCuts checks the cuts of each column, and of those that there are not.
func checkCuts(t *testing.T, x impl.Table) {
	t.Helper()
	for k := range x.Columns {
		if got, want := impl.CutsOf(x, k), wantCuts(x, k); !slices.Equal(got, want) {
			t.Errorf("CutsOf(%q, %d) = %v, want %v", impl.FormatTable(x), k, got, want)
		}
	}
	for _, k := range noIndices(len(x.Columns)) {
		if got := impl.CutsOf(x, k); len(got) != 0 {
			t.Errorf("CutsOf(%q, %d) = %v", impl.FormatTable(x), k, got)
		}
	}
}

// checkNoCell checks that there is no cell n.
func checkNoCell(t *testing.T, x impl.Table, n int) {
	t.Helper()
	if got, ok := impl.CellAt(x, n); ok || len(got) != 0 {
		t.Errorf("CellAt(%q, %d) = %v, %v", impl.FormatTable(x), n, got, ok)
	}
	if got, ok := impl.CellMatches(x, n); ok || len(got) != 0 {
		t.Errorf("CellMatches(%q, %d) = %v, %v", impl.FormatTable(x), n, got, ok)
	}
}

// checkNoCells checks that all functions about cells refuse a table.
func checkNoCells(t *testing.T, name string, x impl.Table, inputs [][]int) {
	t.Helper()
	if got, ok := impl.CellCount(x); ok || got != 0 {
		t.Errorf("%s: CellCount = %d, %v", name, got, ok)
	}
	for _, n := range []int{0, 1, 2, 100, -1, impl.MaxCells - 1, impl.MaxCells, math.MinInt, math.MaxInt} {
		checkNoCell(t, x, n)
	}
	for _, in := range inputs {
		if got, ok := impl.CellOf(x, in); ok || got != 0 {
			t.Errorf("%s: CellOf(%v) = %d, %v", name, in, got, ok)
		}
	}
}

// checkCells checks all cells of a table, with all of their inputs: these are the promise.
func checkCells(t *testing.T, x impl.Table) {
	t.Helper()
	cells, text := wantCells(x), impl.FormatTable(x)
	if got, ok := impl.CellCount(x); !ok || got != len(cells) {
		t.Errorf("CellCount(%q) = %d, %v, want %d", text, got, ok, len(cells))
	}
	total := 0
	for n, want := range cells {
		cell, ok := impl.CellAt(x, n)
		wantSpans(t, fmt.Sprintf("CellAt(%q, %d)", text, n), cell, ok, want, true)
		matches, ok := impl.CellMatches(x, n)
		first, _ := impl.BoxFirst(cell)
		result := impl.Decide(x, first)
		if !ok {
			t.Errorf("CellMatches(%q, %d) = false", text, n)
		}
		allInputs(columnsOfBox(want), func(in []int) {
			total++
			if got, ok := impl.CellOf(x, in); !ok || got != n {
				t.Errorf("CellOf(%q, %v) = %d, %v, want %d", text, in, got, ok, n)
			}
			if !impl.BoxHas(cell, in) || !slices.Equal(matches, wantMatches(x, in)) {
				t.Errorf("CellMatches(%q, %d) = %v, want %v for %v", text, n, matches, wantMatches(x, in), in)
			}
			checkResult(t, text, impl.Decide(x, in), result)
		})
	}
	if total != impl.InputsOf(x) {
		t.Errorf("the cells of %q have %d inputs, and the table has %d", text, total, impl.InputsOf(x))
	}
	for _, n := range noIndices(len(cells)) {
		checkNoCell(t, x, n)
	}
}

// TestCells has tables with one to four columns and none to twelve rules, under each policy.
func TestCells(t *testing.T) {
	if impl.MaxCells != 20000 {
		t.Errorf("MaxCells = %d", impl.MaxCells)
	}
	undivided, divided := 0, 0
	for _, x := range smallTables() {
		checkCuts(t, x)
		checkCells(t, x)
		for k, c := range x.Columns {
			if c.Lo < c.Hi && len(wantCuts(x, k)) == 1 {
				undivided++
			} else if len(wantCuts(x, k)) == c.Hi-c.Lo+1 {
				divided++
			}
		}
	}
	if undivided < 20 || divided < 100 {
		t.Errorf("%d columns were not divided, and %d by each value", undivided, divided)
	}
	for _, x := range goodTables() {
		if n := impl.InputsOf(x); n <= 1000 {
			checkCuts(t, x)
			checkCells(t, x)
		}
	}
}

// TestCellsOfAllTests has all pairs of tests of a column with five values, and all triples of one with three, at both limits and as letters.
func TestCellsOfAllTests(t *testing.T) {
	for _, lo := range []int{impl.MinNum, -2, impl.MaxNum - 4} {
		for a := range uint(32) {
			for b := range uint(32) {
				x := tableOf(int(a+b)%10+1, columnsOf(numbers(lo, lo+4)), rule(3, fromBits(a, lo)), rule(1, fromBits(b, lo)))
				checkCuts(t, x)
				checkCells(t, x)
			}
		}
	}
	for bits := range uint(512) {
		x := tableOf(int(bits)%10+1, columnsOf(letters(2)), rule(0, fromBits(bits&7, 0)), rule(0, fromBits(bits>>3&7, 0)), rule(9, fromBits(bits>>6, 0)))
		checkCuts(t, x)
		checkCells(t, x)
	}
}

// TestCutsOfColumns has columns at the limits, with tests that do not divide them, and with such that divide them at each value.
func TestCutsOfColumns(t *testing.T) {
	for _, c := range goodColumns() {
		whole := row(c.Lo, c.Hi)
		for _, rules := range [][]impl.Rule{nil, {rule(1, nil)}, {rule(1, row())}, {rule(1, whole)}, {rule(1, nil), rule(2, whole)}, manyRules(12, whole), manyRules(12, nil)} {
			checkDivision(t, tableOf(4, columnsOf(c), rules...), c.Lo, c.Hi)
		}
		for at := c.Lo; at <= c.Hi; at++ {
			for _, test := range [][]impl.Span{row(c.Lo, at), row(at, c.Hi), row(at, at)} {
				x := tableOf(4, columnsOf(c), rule(1, whole), rule(2, test), rule(3, nil))
				checkDivision(t, x, c.Lo, test[0].Lo-1, test[0].Lo, test[0].Hi, test[0].Hi+1, c.Hi)
			}
		}
	}
}

// checkDivision checks the cuts of a table with one column, of which ends are the ends, with those without values.
func checkDivision(t *testing.T, x impl.Table, ends ...int) {
	t.Helper()
	want := slices.DeleteFunc(row(ends...), func(x impl.Span) bool { return x.Lo > x.Hi })
	wantSpans(t, fmt.Sprintf("CutsOf(%q, 0)", impl.FormatTable(x)), impl.CutsOf(x, 0), true, want, true)
	if got, ok := impl.CellCount(x); !ok || got != len(want) {
		t.Errorf("CellCount(%q) = %d, %v, want %d", impl.FormatTable(x), got, ok, len(want))
	}
}

// TestCutsOfOtherColumns checks that the tests of a column divide no other one.
func TestCutsOfOtherColumns(t *testing.T) {
	columns := columnsOf(numbers(-5, 5), letters(10), numbers(0, 10), numbers(89, 99))
	for k := range columns {
		x := tableOf(6, columns, rule(1, nil, nil, nil, nil), rule(2, row(-5, 5), row(0, 10), row(0, 10), row(89, 99)))
		lo := columns[k].Lo
		x.Rules[0].Tests[k] = row(lo+2, lo+4)
		for j, c := range columns {
			want := row(c.Lo, c.Hi)
			if j == k {
				want = row(lo, lo+1, lo+2, lo+4, lo+5, c.Hi)
			}
			wantSpans(t, "CutsOf", impl.CutsOf(x, j), true, want, true)
		}
		checkCuts(t, x)
		if got, ok := impl.CellCount(x); !ok || got != 3 {
			t.Errorf("CellCount(%q) = %d, %v", impl.FormatTable(x), got, ok)
		}
	}
}

func TestCutsExamples(t *testing.T) {
	cases := map[string]string{
		"U 0..9\n<3:1\n2..5:2\n":                      "0..1 2 3..5 6..9",
		"U 0..9\n":                                    "-",
		"U 0..9\n-:1\n:2\n":                           "-",
		"U 7..7\n7:1\n":                               "-",
		"U A..A\n:1\n":                                "-",
		"U 0..9\n0:1\n":                               "0 1..9",
		"U 0..9\n9:1\n":                               "0..8 9",
		"U 0..9\n5..9:1\n":                            "0..4 5..9",
		"U 0..9\n0..4:1\n5..9:2\n":                    "0..4 5..9",
		"U 0..9\n0..8:1\n1..9:2\n":                    "0 1..8 9",
		"U 0..9\n3..6:1\n4..5:2\n":                    "0..2 3 4..5 6 7..9",
		"U 0..9\n3..6:1\n3..6:1\n":                    "0..2 3..6 7..9",
		"U 0..9\n0,2,4,6,8:1\n":                       "0 1 2 3 4 5 6 7 8 9",
		"U 0..9\n0,2:1\n5,8:2\n":                      "0 1 2 3..4 5 6..7 8 9",
		"U A..E\nB..D:1\nnot(C):2\n":                  "A B C D E",
		"U -99..99\n-99:1\n99:2\n-1..1:3\n":           "-99 -98..-2 -1..1 2..98 99",
		"U -99..99\nnot(-99,99):1\n":                  "-99 -98..98 99",
		"U -99..-98\n-98:1\n":                         "-99 -98",
		"U 98..99\n98:1\n":                            "98 99",
		"U 98..99\n-:1\n99:1\n:1\n":                   "98 99",
		"U -5..5\n" + strings.Repeat("-2..2:1\n", 12): "-5..-3 -2..2 3..5",
	}
	for text, want := range cases {
		x, ok := impl.ParseTable(text)
		var texts []string
		for _, cut := range impl.CutsOf(x, 0) {
			texts = append(texts, impl.FormatTest(x.Columns[0], []impl.Span{cut}))
		}
		if got := strings.Join(texts, " "); !ok || got != want {
			t.Errorf("CutsOf(%q) = %s, want %s", text, got, want)
		}
		if got, ok := impl.CellCount(x); !ok || got != strings.Count(want, " ")+1 {
			t.Errorf("CellCount(%q) = %d, %v", text, got, ok)
		}
	}
}

// TestCellOrder has a table whose cells are written out, in order.
func TestCellOrder(t *testing.T) {
	x := tableOf(4, columnsOf(numbers(-2, 3), letters(2), numbers(7, 7), numbers(90, 99)), rule(1, row(0, 3), row(1, 1), row(7, 7), row(90, 94)), rule(2, row(-2, 3), row(0, 2), nil, row(90, 99)), rule(3, row(-2, -1), row(0, 2), row(7, 7), row(95, 99)))
	cells := []string{
		"-2..-1;A;-;90..94", "-2..-1;A;-;95..99", "-2..-1;B;-;90..94", "-2..-1;B;-;95..99", "-2..-1;C;-;90..94", "-2..-1;C;-;95..99",
		"0..3;A;-;90..94", "0..3;A;-;95..99", "0..3;B;-;90..94", "0..3;B;-;95..99", "0..3;C;-;90..94", "0..3;C;-;95..99",
	}
	matches := map[int]int{1: 2, 3: 2, 5: 2, 8: 0}
	for n, want := range cells {
		cell, ok := impl.CellAt(x, n)
		var texts []string
		for k, span := range cell {
			texts = append(texts, impl.FormatTest(x.Columns[k], []impl.Span{span}))
		}
		if got := strings.Join(texts, ";"); !ok || got != want {
			t.Errorf("CellAt(%d) = %s, %v, want %s", n, got, ok, want)
		}
		var rules []int
		if only, ok := matches[n]; ok {
			rules = []int{only}
		}
		if got, ok := impl.CellMatches(x, n); !ok || !slices.Equal(got, rules) {
			t.Errorf("CellMatches(%d) = %v, %v, want %v", n, got, ok, rules)
		}
	}
	checkCuts(t, x)
	checkCells(t, x)
	for in, want := range map[[4]int]int{{-2, 0, 7, 90}: 0, {-1, 0, 7, 94}: 0, {-2, 0, 7, 95}: 1, {-1, 2, 7, 99}: 5, {0, 0, 7, 90}: 6, {2, 1, 7, 91}: 8, {3, 2, 7, 99}: 11} {
		if got, ok := impl.CellOf(x, in[:]); !ok || got != want {
			t.Errorf("CellOf(%v) = %d, %v, want %d", in, got, ok, want)
		}
	}
}

// TestCellMatchesExamples has cells that no rule matches, and that as many as possible match.
func TestCellMatchesExamples(t *testing.T) {
	none := tableOf(1, columnsOf(numbers(0, 9)))
	if got, ok := impl.CellMatches(none, 0); !ok || len(got) != 0 {
		t.Errorf("CellMatches = %v, %v for a table without rules", got, ok)
	}
	all := tableOf(1, columnsOf(numbers(0, 9), letters(3)), manyRules(12, row(4, 9), row(0, 3))...)
	if got, ok := impl.CellMatches(all, 1); !ok || !slices.Equal(got, []int{0, 1, 2, 3, 4, 5, 6, 7, 8, 9, 10, 11}) {
		t.Errorf("CellMatches = %v, %v for 12 rules", got, ok)
	}
	if got, ok := impl.CellMatches(all, 0); !ok || len(got) != 0 {
		t.Errorf("CellMatches = %v, %v beside 12 rules", got, ok)
	}
}

// fineTable is a table with a cut for each of as many values of each column as widths tells.
func fineTable(widths ...int) impl.Table {
	x := tableOf(5, nil, manyRules(12)...)
	for k, width := range widths {
		c := numbers(impl.MinNum+k, impl.MinNum+k+width-1)
		if c.Hi > impl.MaxNum {
			c = numbers(impl.MinNum, impl.MinNum+width-1)
		}
		x.Columns = append(x.Columns, c)
		for n := range x.Rules {
			lo := c.Lo + 24*n
			count := max(0, min(12, (c.Hi-lo+2)/2))
			x.Rules[n].Tests = append(x.Rules[n].Tests, singles(count, lo))
		}
	}
	return x
}

// checkFineCuts checks that each value of a fineTable is a cut.
func checkFineCuts(t *testing.T, x impl.Table) {
	t.Helper()
	for k, c := range x.Columns {
		var want []impl.Span
		for n := c.Lo; n <= c.Hi; n++ {
			want = append(want, impl.Span{Lo: n, Hi: n})
		}
		if got := impl.CutsOf(x, k); !impl.TableValid(x) || !slices.Equal(got, want) {
			t.Errorf("CutsOf(%v, %d) = %v", x.Columns, k, got)
		}
	}
}

// TestMostCells has tables with exactly as many cells as there can be, and with fewer.
func TestMostCells(t *testing.T) {
	shapes := map[int][][]int{
		20000: {{125, 160}, {160, 125}, {1, 125, 160}, {160, 1, 125, 1}, {100, 2, 100}, {20, 10, 100}, {10, 10, 10, 20}, {2, 2, 50, 100}},
		19998: {{101, 198}, {2, 99, 101}, {6, 33, 101}},
		199:   {{199}, {1, 199}, {199, 1, 1, 1}},
		7:     {{7}},
		1:     {{1}, {1, 1, 1, 1}},
	}
	for count, list := range shapes {
		for _, widths := range list {
			x := fineTable(widths...)
			checkFineCuts(t, x)
			if got, ok := impl.CellCount(x); !ok || got != count {
				t.Errorf("CellCount(%v) = %d, %v, want %d", x.Columns, got, ok, count)
			}
			for _, n := range []int{0, 1, 2, count / 3, count / 2, count - 2, count - 1} {
				checkFineCell(t, x, n, n >= 0 && n < count)
			}
			for _, n := range []int{-1, count, count + 1, math.MinInt, math.MaxInt, 1 << 32} {
				checkFineCell(t, x, n, false)
			}
		}
	}
}

// checkFineCell checks the cell n of a fineTable, whose values are the digits of n, or that there is none.
func checkFineCell(t *testing.T, x impl.Table, n int, is bool) {
	t.Helper()
	if !is {
		checkNoCell(t, x, n)
		return
	}
	in, rest := make([]int, len(x.Columns)), n
	want := make([]impl.Span, len(in))
	for k := len(in) - 1; k >= 0; k-- {
		width := x.Columns[k].Hi - x.Columns[k].Lo + 1
		in[k] = x.Columns[k].Lo + rest%width
		rest /= width
		want[k] = impl.Span{Lo: in[k], Hi: in[k]}
	}
	cell, ok := impl.CellAt(x, n)
	wantSpans(t, fmt.Sprintf("CellAt(%v, %d)", x.Columns, n), cell, ok, want, true)
	if got, ok := impl.CellOf(x, in); !ok || got != n {
		t.Errorf("CellOf(%v, %v) = %d, %v, want %d", x.Columns, in, got, ok, n)
	}
	if got, ok := impl.CellMatches(x, n); !ok || !slices.Equal(got, wantMatches(x, in)) {
		t.Errorf("CellMatches(%v, %d) = %v, %v, want %v", x.Columns, n, got, ok, wantMatches(x, in))
	}
}

// TestTooManyCells has tables with one cell too many, and with more. Their cuts are as always.
func TestTooManyCells(t *testing.T) {
	for _, widths := range [][]int{{3, 59, 113}, {113, 59, 3, 1}, {142, 141}, {101, 199}, {199, 199}, {199, 199, 199}, {199, 199, 199, 199}, {12, 12, 12, 12}, {20, 10, 10, 11}, {2, 100, 101}} {
		x := fineTable(widths...)
		checkFineCuts(t, x)
		var los, his []int
		for _, c := range x.Columns {
			los, his = append(los, c.Lo), append(his, c.Hi)
		}
		if !impl.InputValid(x, los) || !impl.InputValid(x, his) {
			t.Errorf("%v and %v are no inputs", los, his)
		}
		checkNoCells(t, fmt.Sprint(widths), x, [][]int{los, his, nil})
		for _, k := range noIndices(len(x.Columns)) {
			if got := impl.CutsOf(x, k); len(got) != 0 {
				t.Errorf("CutsOf(%v, %d) = %v", widths, k, got)
			}
		}
	}
	wide := numbers(impl.MinNum, impl.MaxNum)
	few := tableOf(1, columnsOf(wide, wide, wide, wide), rule(1, row(0, 0), row(1, 1), row(2, 2), row(3, 3)))
	if got, ok := impl.CellCount(few); !ok || got != 81 {
		t.Errorf("CellCount = %d, %v for few cells with many inputs", got, ok)
	}
	if got, ok := impl.CellOf(few, []int{99, 1, -99, 4}); !ok || got != 2*27+1*9+0*3+2 {
		t.Errorf("CellOf = %d, %v for few cells with many inputs", got, ok)
	}
}

// TestCellsRefuse has tables that are not valid, and lists that are no inputs.
func TestCellsRefuse(t *testing.T) {
	for name, x := range badTables() {
		var los, his []int
		for _, c := range x.Columns {
			los, his = append(los, c.Lo), append(his, c.Hi)
		}
		checkNoCells(t, name, x, [][]int{nil, {}, {0}, {1}, {0, 0}, {1, 1}, {-99, 0}, {0, 0, 0}, {0, 0, 0, 0}, {0, 0, 0, 0, 0}, los, his})
		for k := -1; k <= len(x.Columns); k++ {
			if got := impl.CutsOf(x, k); len(got) != 0 {
				t.Errorf("%s: CutsOf(%d) = %v", name, k, got)
			}
		}
	}
	x := tableOf(1, columnsOf(numbers(-2, 1), letters(2)), rule(1, row(-1, 0), row(1, 2)))
	for _, in := range [][]int{nil, {}, {0}, {0, 0, 0}, {0, 0, 0, 0}, make([]int, 1000), {-3, 0}, {2, 0}, {0, -1}, {0, 3}, {0, 'A'}, {0, math.MaxInt}, {math.MinInt, 0}, {1 << 32, 0}, {0, 256}} {
		if got, ok := impl.CellOf(x, in); ok || got != 0 {
			t.Errorf("CellOf(%v) = %d, %v", in, got, ok)
		}
	}
}

// TestCellsShareNoMemory writes over each result, also behind its end, and looks at the others, at the arguments, and at new results.
func TestCellsShareNoMemory(t *testing.T) {
	for text, x := range goodTables() {
		box := row(3, 4, -5, 6, 77, 77)
		spans, lists := resultsOfCells(x, box[:2])
		kept := fmt.Sprint(spans, lists)
		again, more := resultsOfCells(x, box[:2])
		spans, lists = append(spans, again...), append(lists, more...)
		for i, s := range spans {
			spans[i] = nil
			others := fmt.Sprint(spans, lists)
			for j := range s[:cap(s)] {
				s[:cap(s)][j] = impl.Span{Lo: 88, Hi: 88}
			}
			if fmt.Sprint(spans, lists) != others {
				t.Fatalf("spans %d of %q share memory", i, text)
			}
		}
		for i, l := range lists {
			lists[i] = nil
			others := fmt.Sprint(lists)
			for j := range l[:cap(l)] {
				l[:cap(l)][j] = 88
			}
			if fmt.Sprint(lists) != others {
				t.Fatalf("list %d of %q shares memory", i, text)
			}
		}
		spans, lists = resultsOfCells(x, box[:2])
		if fmt.Sprint(spans, lists) != kept || impl.FormatTable(x) != text || !slices.Equal(box, row(3, 4, -5, 6, 77, 77)) {
			t.Fatalf("results of %q share memory with the table, the box, or new results", text)
		}
	}
}

// resultsOfCells are the results of the functions that return lists.
func resultsOfCells(x impl.Table, box []impl.Span) ([][]impl.Span, [][]int) {
	var spans [][]impl.Span
	for k := range x.Columns {
		spans = append(spans, impl.CutsOf(x, k))
	}
	cell, _ := impl.CellAt(x, 0)
	matches, _ := impl.CellMatches(x, 0)
	first, _ := impl.BoxFirst(box)
	return append(spans, cell), [][]int{matches, first}
}

// TestCellsKeepArguments checks that tables, inputs and boxes stay as they are, also behind their ends.
func TestCellsKeepArguments(t *testing.T) {
	whole := tableOf(1, columnsOf(numbers(0, 9), letters(2), numbers(77, 77)), rule(1, row(0, 2, 4, 4, 6, 9), row(0, 1)), rule(2, row(5, 6), row(0, 2)), rule(3))
	kept := cloneTable(whole)
	x := impl.Table{Columns: whole.Columns[:2], Policy: 1, Rules: whole.Rules[:2]}
	in := []int{4, 1, 77, 78}
	box := row(4, 5, 0, 1, 77, 77)
	if got, ok := impl.CellOf(x, in[:2]); !ok || got != 4 {
		t.Errorf("CellOf = %d, %v", got, ok)
	}
	wantSpans(t, "CutsOf", impl.CutsOf(x, 0), true, row(0, 2, 3, 3, 4, 4, 5, 5, 6, 6, 7, 9), true)
	cell, ok := impl.CellAt(x, 11)
	wantSpans(t, "CellAt", cell, ok, row(7, 9, 2, 2), true)
	if got, ok := impl.CellMatches(x, 8); !ok || !slices.Equal(got, []int{0, 1}) {
		t.Errorf("CellMatches = %v, %v", got, ok)
	}
	if impl.BoxSize(box[:2]) != 4 || !impl.BoxHas(box[:2], in[:2]) {
		t.Error("BoxSize or BoxHas is wrong")
	}
	impl.BoxFirst(box[:2])
	if show(whole) != show(kept) || !slices.Equal(in, []int{4, 1, 77, 78}) || !slices.Equal(box, row(4, 5, 0, 1, 77, 77)) {
		t.Errorf("the table is %v, the input %v, and the box %v", whole, in, box)
	}
}
