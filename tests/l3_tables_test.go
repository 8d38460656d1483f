package tests

import (
	"fmt"
	"math"
	"regexp"
	"slices"
	"strconv"
	"strings"
	"testing"

	"loop.example/decisiontables/impl"
)

const letterOfPolicy = " UAPFRO+<>#"

// rule makes a rule of its output and tests.
func rule(out int, tests ...[]impl.Span) impl.Rule { return impl.Rule{Tests: tests, Out: out} }

// tableOf makes a table of a policy, columns and rules.
func tableOf(policy int, columns []impl.Column, rules ...impl.Rule) impl.Table {
	return impl.Table{Columns: columns, Policy: policy, Rules: rules}
}

// columnsOf makes a list of columns.
func columnsOf(list ...impl.Column) []impl.Column { return list }

// cloneTable copies a table with all of its memory.
func cloneTable(t impl.Table) impl.Table {
	t.Columns = slices.Clone(t.Columns)
	t.Rules = slices.Clone(t.Rules)
	for n, r := range t.Rules {
		t.Rules[n].Tests = slices.Clone(r.Tests)
		for k, s := range r.Tests {
			t.Rules[n].Tests[k] = slices.Clone(s)
		}
	}
	return t
}

// show writes all fields of a table, the same for nil and for empty slices.
func show(t impl.Table) string { return fmt.Sprint(t) }

// manyRules makes count rules of tests, with other outputs.
func manyRules(count int, tests ...[]impl.Span) []impl.Rule {
	var list []impl.Rule
	for n := range count {
		list = append(list, rule(n, tests...))
	}
	return list
}

// goodTables are tables, with their texts.
func goodTables() map[string]impl.Table {
	digit, word, wide := numbers(0, 9), letters(2), numbers(impl.MinNum, impl.MaxNum)
	list := map[string]impl.Table{
		"U 0..9 A..C\n0..2;-:1\n2..5;A..B:2\n6..9;:3\n": tableOf(1, columnsOf(digit, word), rule(1, row(0, 2), row(0, 2)), rule(2, row(2, 5), row(0, 1)), rule(3, row(6, 9), nil)),
		"F 0..9\n:0\n-:99\n0:7\n9:10\n0,9:50\n":         tableOf(4, columnsOf(digit), rule(0, nil), rule(99, row(0, 9)), rule(7, row(0, 0)), rule(10, row(9, 9)), rule(50, row(0, 0, 9, 9))),
		"+ -99..99 A..Z -5..20 7..7\n-99,99;A,C..D,Z;-5..-3,-1,1..20;-:12\n;;;:0\n-;-;-;-:1\n": tableOf(7, columnsOf(wide, letters(25), numbers(-5, 20), numbers(7, 7)),
			rule(12, row(-99, -99, 99, 99), row(0, 0, 2, 3, 25, 25), row(-5, -3, -1, -1, 1, 20), row(7, 7)), rule(0, nil, row(), nil, row()), rule(1, row(-99, 99), row(0, 25), row(-5, 20), row(7, 7))),
		"> A..A\n-:3\n:4\n": tableOf(9, columnsOf(letters(0)), rule(3, row(0, 0)), rule(4, row())),
		"# -99..99 -99..99 -99..99 -99..99\n" + strings.Repeat(listText(12, -99)+";"+listText(12, 0)+";-;0:5\n", 12): tableOf(10, columnsOf(wide, wide, wide, wide),
			slices.Repeat([]impl.Rule{rule(5, singles(12, -99), singles(12, 0), row(-99, 99), row(0, 0))}, 12)...),
	}
	for policy := 1; policy <= 10; policy++ {
		letter := letterOfPolicy[policy : policy+1]
		list[letter+" 0..9\n"] = tableOf(policy, columnsOf(digit))
		list[letter+" 0..9 A..C 0..9 A..C\n0..2;B;;-:9\n"] = tableOf(policy, columnsOf(digit, word, digit, word), rule(9, row(0, 2), row(1, 1), nil, row(0, 2)))
		list[letter+" A..C\nB:0\nB:1\nB:2\nB:3\nB:4\nB:5\nB:6\nB:7\nB:8\nB:9\nB:10\nB:11\n"] = tableOf(policy, columnsOf(word), manyRules(12, row(1, 1))...)
	}
	return list
}

// badTables are no tables.
func badTables() map[string]impl.Table {
	digit, word := numbers(0, 9), letters(2)
	both := columnsOf(digit, word)
	good := rule(1, row(0, 9), row(0, 2))
	list := map[string]impl.Table{
		"zero value":            {},
		"no columns":            tableOf(1, nil),
		"no columns, but rule":  tableOf(1, nil, rule(1)),
		"empty columns":         tableOf(1, columnsOf(), rule(1)),
		"5 columns":             tableOf(1, columnsOf(digit, digit, digit, digit, digit)),
		"5 columns and a rule":  tableOf(1, columnsOf(digit, digit, digit, digit, digit), rule(1, nil, nil, nil, nil, nil)),
		"13 rules":              tableOf(1, both, slices.Repeat([]impl.Rule{good}, 13)...),
		"rule without tests":    tableOf(1, both, good, rule(1)),
		"one test too few":      tableOf(1, both, rule(1, row(0, 9)), good),
		"one test too many":     tableOf(1, both, good, rule(1, row(0, 9), row(0, 2), row(0, 2))),
		"an empty one too many": tableOf(1, both, good, rule(1, row(0, 9), row(0, 2), nil)),
		"test below column":     tableOf(1, both, good, rule(1, row(-1, 9), nil)),
		"test above column":     tableOf(1, both, rule(1, row(0, 9), row(0, 3)), good),
		"tests exchanged":       tableOf(1, both, rule(1, row(0, 2), row(0, 9))),
		"test besides column":   tableOf(1, both, rule(1, row(0, 9), row(5, 6))),
	}
	for _, policy := range []int{0, 11, -1, -10, 100, 'U', math.MinInt, math.MaxInt, 1 << 32, 1<<32 + 1} {
		list["policy "+strconv.Itoa(policy)] = tableOf(policy, both, good)
	}
	for _, out := range []int{-1, 100, -99, 1000, math.MinInt, math.MaxInt, 1 << 32} {
		list["output "+strconv.Itoa(out)] = tableOf(1, both, good, rule(out, row(0, 9), nil))
	}
	for name, s := range badSets() {
		list["first test: "+name] = tableOf(1, columnsOf(numbers(impl.MinNum, impl.MaxNum), word), good, rule(1, s, nil))
		list["last test: "+name] = tableOf(1, columnsOf(digit, numbers(impl.MinNum, impl.MaxNum)), rule(1, nil, s), good)
	}
	for _, c := range badColumns() {
		list[fmt.Sprintf("first column is %v", c)] = tableOf(1, columnsOf(c, word))
		list[fmt.Sprintf("last column is %v", c)] = tableOf(1, columnsOf(digit, c), rule(1, row(0, 9), nil))
		list[fmt.Sprintf("the column is %v", c)] = tableOf(1, columnsOf(c))
	}
	return list
}

func TestTableLimits(t *testing.T) {
	policies := []int{impl.PolicyUnique, impl.PolicyAny, impl.PolicyPriority, impl.PolicyFirst, impl.PolicyRules, impl.PolicyOutputs, impl.PolicySum, impl.PolicyLeast, impl.PolicyMost, impl.PolicyCount}
	if !slices.Equal(policies, []int{1, 2, 3, 4, 5, 6, 7, 8, 9, 10}) {
		t.Errorf("policies are %v", policies)
	}
	if impl.MaxColumns != 4 || impl.MaxRules != 12 || impl.MaxOut != 99 {
		t.Errorf("limits are %d, %d and %d", impl.MaxColumns, impl.MaxRules, impl.MaxOut)
	}
}

// TestGoodTables writes tables, and reads them back.
func TestGoodTables(t *testing.T) {
	for text, x := range goodTables() {
		if !impl.TableValid(x) {
			t.Errorf("TableValid(%v) = false", x)
		}
		if got := impl.FormatTable(x); got != text {
			t.Errorf("FormatTable(%v) = %q, want %q", x, got, text)
		}
		checkParseTable(t, text, x, true)
	}
}

// checkParseTable checks a result of ParseTable.
func checkParseTable(t *testing.T, text string, want impl.Table, wantOk bool) {
	t.Helper()
	if got, ok := impl.ParseTable(text); ok != wantOk || show(got) != show(want) {
		t.Errorf("ParseTable(%q) = %v, %v, want %v, %v", text, got, ok, want, wantOk)
	}
}

// TestBadTables gives each function tables that are not valid.
func TestBadTables(t *testing.T) {
	inputs := [][]int{nil, {}, {0}, {1}, {0, 0}, {1, 1}, {-99, -99}, {0, 0, 0}, {0, 0, 0, 0}, {0, 0, 0, 0, 0}}
	for name, x := range badTables() {
		if impl.TableValid(x) || impl.FormatTable(x) != "" || impl.InputsOf(x) != 0 {
			t.Errorf("%s: TableValid = %v, FormatTable = %q, InputsOf = %d", name, impl.TableValid(x), impl.FormatTable(x), impl.InputsOf(x))
		}
		list := inputs
		if len(x.Columns) == 2 {
			list = append(list[:len(list):len(list)], []int{x.Columns[0].Lo, x.Columns[1].Lo}, []int{x.Columns[0].Hi, x.Columns[1].Hi})
		}
		for _, in := range list {
			if impl.InputValid(x, in) || len(impl.MatchesOf(x, in)) != 0 {
				t.Errorf("%s: InputValid(%v) = %v, MatchesOf = %v", name, in, impl.InputValid(x, in), impl.MatchesOf(x, in))
			}
			for n := -1; n <= len(x.Rules); n++ {
				if impl.RuleMatches(x, n, in) {
					t.Errorf("%s: RuleMatches(%d, %v) = true", name, n, in)
				}
			}
		}
	}
}

// TestTableSame holds tables that differ in one place against each other, valid ones and others.
func TestTableSame(t *testing.T) {
	first := tableOf(4, columnsOf(numbers(0, 9), letters(2)), rule(1, row(0, 2, 4, 5), row(0, 2)), rule(2, nil, row(1, 1)))
	list := []impl.Table{first, {}, {Policy: 1}, {Policy: -1}, {Columns: columnsOf(impl.Column{})}, {Rules: []impl.Rule{{}}}, {Rules: []impl.Rule{{}, {}}}, {Rules: []impl.Rule{rule(0, nil)}}, {Rules: []impl.Rule{rule(0, nil, nil)}}, {Rules: []impl.Rule{rule(math.MaxInt)}}}
	changes := []func(x *impl.Table){
		func(x *impl.Table) { x.Policy = 5 },
		func(x *impl.Table) { x.Policy = 11 },
		func(x *impl.Table) { x.Columns[0].Lo = -1 },
		func(x *impl.Table) { x.Columns[0].Hi = 10 },
		func(x *impl.Table) { x.Columns[1].Letters = false },
		func(x *impl.Table) { x.Columns[1].Lo = 1 },
		func(x *impl.Table) { x.Columns = x.Columns[:1] },
		func(x *impl.Table) { x.Columns = append(x.Columns, numbers(0, 0)) },
		func(x *impl.Table) { slices.Reverse(x.Columns) },
		func(x *impl.Table) { x.Rules = x.Rules[:1] },
		func(x *impl.Table) { x.Rules = x.Rules[1:] },
		func(x *impl.Table) { x.Rules = append(x.Rules, impl.Rule{}) },
		func(x *impl.Table) { slices.Reverse(x.Rules) },
		func(x *impl.Table) { x.Rules[1].Out = 3 },
		func(x *impl.Table) { x.Rules[0].Out = -1 },
		func(x *impl.Table) { x.Rules[0].Tests = nil },
		func(x *impl.Table) { x.Rules[0].Tests = x.Rules[0].Tests[:1] },
		func(x *impl.Table) { x.Rules[1].Tests = append(x.Rules[1].Tests, nil) },
		func(x *impl.Table) { slices.Reverse(x.Rules[1].Tests) },
		func(x *impl.Table) { x.Rules[0].Tests[0] = nil },
		func(x *impl.Table) { x.Rules[0].Tests[0] = x.Rules[0].Tests[0][:1] },
		func(x *impl.Table) { x.Rules[0].Tests[0][1].Lo = 5 },
		func(x *impl.Table) { x.Rules[0].Tests[1][0].Hi = 1 },
		func(x *impl.Table) { x.Rules[0].Tests[0] = row(4, 5, 0, 2) },
		func(x *impl.Table) { x.Rules[1].Tests[0] = row(1, 0) },
		func(x *impl.Table) { x.Rules[1].Tests[1] = row(1, 1, 1, 1) },
	}
	for _, change := range changes {
		x := cloneTable(first)
		change(&x)
		list = append(list, x)
	}
	for i, a := range list {
		for j, b := range list {
			if impl.TableSame(a, cloneTable(b)) != (i == j) {
				t.Errorf("TableSame(%v, %v) = %v", a, b, i != j)
			}
		}
	}
	for name, x := range badTables() {
		if !impl.TableSame(x, cloneTable(x)) || impl.TableSame(x, first) || impl.TableSame(first, x) {
			t.Errorf("%s: TableSame is wrong", name)
		}
	}
}

// TestTableSameEmpty has nil slices against empty ones.
func TestTableSameEmpty(t *testing.T) {
	pairs := [][2]impl.Table{
		{{}, {Columns: []impl.Column{}, Rules: []impl.Rule{}}},
		{{Rules: []impl.Rule{{}}}, {Rules: []impl.Rule{{Tests: [][]impl.Span{}}}}},
		{{Rules: []impl.Rule{rule(1, nil)}}, {Rules: []impl.Rule{rule(1, row())}}},
	}
	for _, x := range pairs {
		if !impl.TableSame(x[0], x[1]) || !impl.TableSame(x[1], x[0]) {
			t.Errorf("TableSame(%#v, %#v) = false", x[0], x[1])
		}
	}
}

// TestParseTable has tests that are written in other ways than FormatTest writes them.
func TestParseTable(t *testing.T) {
	digit, word := numbers(0, 9), letters(2)
	cases := map[string]impl.Table{
		"U 0..9\n0..9:1\n":                  tableOf(1, columnsOf(digit), rule(1, row(0, 9))),
		"U 0..9\nnot(<3,7):1\n":             tableOf(1, columnsOf(digit), rule(1, row(3, 6, 8, 9))),
		"U 0..9\nnot(-1):1\n":               {},
		"U 0..9\n<0:1\n>9:2\n":              tableOf(1, columnsOf(digit), rule(1, nil), rule(2, nil)),
		"U 0..9\n>=0:1\n5,3,4:2\n":          tableOf(1, columnsOf(digit), rule(1, row(0, 9)), rule(2, row(3, 5))),
		"F 0..9 A..C\n<3;<=B:1\n3..3;-:2\n": tableOf(4, columnsOf(digit, word), rule(1, row(0, 2), row(0, 1)), rule(2, row(3, 3), row(0, 2))),
		"# A..C\nnot(A..C):0\nC,A,B:99\n":   tableOf(10, columnsOf(word), rule(0, nil), rule(99, row(0, 2))),
		"< -3..-1 0..9\nnot(-2);:5\n":       tableOf(8, columnsOf(numbers(-3, -1), digit), rule(5, row(-3, -3, -1, -1), nil)),
		"> 0..9 0..9\n;:5\n":                tableOf(9, columnsOf(digit, digit), rule(5, nil, nil)),
		"+ 0..9 0..9\n-;-:5\n-;:6\n;-:7\n":  tableOf(7, columnsOf(digit, digit), rule(5, row(0, 9), row(0, 9)), rule(6, row(0, 9), nil), rule(7, nil, row(0, 9))),
	}
	for text, want := range cases {
		checkParseTable(t, text, want, want.Policy != 0)
	}
}

func TestParseTableRefuses(t *testing.T) {
	list := []string{
		"", "\n", "\n\n", "U", "U\n", "U \n", " \n", "U 0..9", "U 0..9 ", "U 0..9 \n", " U 0..9\n", "U  0..9\n", "U 0..9  0..9\n", "U0..9\n", "0..9\n", " 0..9\n", "\nU 0..9\n",
		"X 0..9\n", "u 0..9\n", "UU 0..9\n", "UA 0..9\n", "U U 0..9\n", "1 0..9\n", "- 0..9\n", "U\t0..9\n", "UAPFRO+<># 0..9\n", "\x00 0..9\n", "\xff 0..9\n", "= 0..9\n", "<= 0..9\n",
		"U 9..0\n", "U 0..100\n", "U A..b\n", "U B..C\n", "U 00..9\n", "U 0\n", "U 0..9,A..B\n", "U 0..9;A..B\n", "U 0..9:A..B\n", "U 0..9 x\n", "U 0..9 A..\n",
		"U 0..1 0..1 0..1 0..1 0..1\n", "U 0..1 0..1 0..1 0..1 0..1\n-;-;-;-;-:1\n", "U" + strings.Repeat(" 0..9", 1000) + "\n",
		"U 0..9\r\n", "U 0..9\r\n1:2\r\n", "U 0..9\n1:2\r\n", "U 0..9\n1:2", "U 0..9\n1:2\n3", "U 0..9\n1:2\n\n", "U 0..9\n\n", "U 0..9\n\n1:2\n", "U 0..9\n1:2\n\n3:4\n", "U 0..9/1:2/", "U 0..9\n1:2/3:4/\n",
		"U 0..9\n1\n", "U 0..9\n1:\n", "U 0..9\n:\n", "U 0..9\n1:2:3\n", "U 0..9\n1::2\n", "U 0..9\n::2\n", "U 0..9\n1:2;\n", "U 0..9\n1;:2\n", "U 0..9\n;1:2\n", "U 0..9\n;:2\n", "U 0..9\n1;2:3\n",
		"U 0..9\n1:100\n", "U 0..9\n1:-1\n", "U 0..9\n1:-0\n", "U 0..9\n1:00\n", "U 0..9\n1:02\n", "U 0..9\n1:+2\n", "U 0..9\n1:2.\n", "U 0..9\n1:2,3\n", "U 0..9\n1:A\n", "U 0..9\n1: 2\n", "U 0..9\n1:2 \n", "U 0..9\n1 :2\n", "U 0..9\n 1:2\n", "U 0..9\n1:18446744073709551617\n", "U 0..9\n1:" + strings.Repeat("0", 40) + "\n",
		"U 0..9\n10:1\n", "U 0..9\nA:1\n", "U A..C\n1:1\n", "U A..C\nD:1\n", "U 0..9\n3..1:1\n", "U 0..9\nnot():1\n", "U 0..9\n01:1\n", "U 0..9\n--:1\n", "U 0..9\n1 2:1\n", "U 0..9\n1/2:1\n",
		"U 0..9 A..C\n1:1\n", "U 0..9 A..C\n-:1\n", "U 0..9 A..C\n:1\n", "U 0..9 A..C\n1;A;:1\n", "U 0..9 A..C\n1;A;B:1\n", "U 0..9 A..C\nA;1:1\n", "U 0..9 A..C\n1,A:1\n", "U 0..9 A..C\n1:A:1\n", "U 0..9 A..C\n1;A;1\n", "U 0..9 A..C\n1;D:1\n",
		"U 0..9 A..C\n1;A:1\n1:1\n", "U 0..9 A..C\n1;A:1\n1;A;A:1\n", "U 0..1 0..1 0..1 0..1\n-;-;-;-;-:1\n", "U 0..1 0..1 0..1 0..1\n-;-;-:1\n",
		"U 0..9\n" + strings.Repeat("1:2\n", 13), "U 0..9\n" + strings.Repeat("1:2\n", 12) + "1", "U 0..9\n" + strings.Repeat("1:2\n", 12) + "\n", "U 0..9\n" + strings.Repeat("1:2\n", 5000), "U 0..9\n" + strings.Repeat("1;", 5000) + ":2\n",
		"U 0..99\n" + listText(13, 0) + ":1\n", "U 0..99\nnot(" + listText(13, 1) + "):1\n", "U 0..9\n1:1\nU 0..9\n", "U 0..9\nU 0..9\n",
	}
	for _, text := range list {
		checkParseTable(t, text, impl.Table{}, false)
	}
}

var (
	headPattern   = regexp.MustCompile(`^([UAPFRO+<>#])((?: [^ ]+){1,4})$`)
	numberPattern = regexp.MustCompile(`^(0|-?[1-9][0-9]?)\.\.(0|-?[1-9][0-9]?)$`)
	letterPattern = regexp.MustCompile(`^A\.\.([A-Z])$`)
	rulePattern   = regexp.MustCompile(`^([^:]*):(0|[1-9][0-9]?)$`)
)

// grammarTable reads a table as the document's sentences say it.
func grammarTable(text string) (impl.Table, bool) {
	lines := strings.Split(text, "\n")
	head := headPattern.FindStringSubmatch(lines[0])
	if head == nil || lines[len(lines)-1] != "" || len(lines) > 14 {
		return impl.Table{}, false
	}
	x := impl.Table{Policy: strings.Index(letterOfPolicy, head[1])}
	for _, word := range strings.Split(head[2][1:], " ") {
		c, ok := grammarColumn(word)
		if !ok {
			return impl.Table{}, false
		}
		x.Columns = append(x.Columns, c)
	}
	for _, line := range lines[1 : len(lines)-1] {
		m := rulePattern.FindStringSubmatch(line)
		if m == nil || strings.Count(m[1], ";") != len(x.Columns)-1 {
			return impl.Table{}, false
		}
		r := impl.Rule{}
		r.Out, _ = strconv.Atoi(m[2])
		for k, part := range strings.Split(m[1], ";") {
			s, ok := grammarSpans(x.Columns[k], part)
			if !ok {
				return impl.Table{}, false
			}
			r.Tests = append(r.Tests, s)
		}
		x.Rules = append(x.Rules, r)
	}
	return x, true
}

// grammarColumn reads a column.
func grammarColumn(word string) (impl.Column, bool) {
	if m := letterPattern.FindStringSubmatch(word); m != nil {
		return letters(int(m[1][0] - 'A')), true
	}
	m := numberPattern.FindStringSubmatch(word)
	if m == nil {
		return impl.Column{}, false
	}
	lo, _ := strconv.Atoi(m[1])
	hi, _ := strconv.Atoi(m[2])
	return numbers(lo, hi), lo <= hi
}

// grammarSpans reads a test. A column with more than 60 values has no bits for them; ParseTest is held against the grammar elsewhere.
func grammarSpans(c impl.Column, text string) ([]impl.Span, bool) {
	if c.Hi-c.Lo >= 60 {
		return impl.ParseTest(c, text)
	}
	bits, ok := grammarTest(c, text)
	return fromBits(bits, c.Lo), ok
}

// checkAgainstGrammar holds ParseTable against the grammar, and reads back what it reads. It tells whether the text is one of a table.
func checkAgainstGrammar(t *testing.T, text string) bool {
	t.Helper()
	want, ok := grammarTable(text)
	checkParseTable(t, text, want, ok)
	if ok {
		checkParseTable(t, impl.FormatTable(want), want, true)
	}
	return ok
}

// TestTextsNearTables changes each byte of good texts, leaves it out, and puts others in front of it.
func TestTextsNearTables(t *testing.T) {
	others := append(strings.Split("UAPFRO+<>#0159-ABCZn.,:;/ \n\t\r()=@[", ""), "\x00", "\x80", "\xc3", "\xff", "\xe2\x82", "é", "\u0661", "\u2028", "\uff1a", "\uff35", "\U0001f600")
	good, bad := 0, 0
	for _, text := range []string{"U 0..9 A..C\n<3;-:1\nnot(0..5);:3\n", "# 0..9\n", "< -5..20\n:0\n-:99\n-3,5:12\n", "F A..B 0..1 0..1 0..1\nA;0;1;-:10\n"} {
		for i := range len(text) + 1 {
			list := []string{text[:i], text[i:]}
			for _, other := range others {
				list = append(list, text[:i]+other+text[i:])
				if i < len(text) {
					list = append(list, text[:i]+other+text[i+1:], text[:i]+text[i+1:])
				}
			}
			for _, x := range list {
				if checkAgainstGrammar(t, x) {
					good++
				} else {
					bad++
				}
			}
		}
	}
	if good < 100 || bad < 1000 {
		t.Errorf("only %d texts of tables and %d others were tried", good, bad)
	}
}

// TestTextsOfLines has each text of up to four of some lines, with and without a newline at the end.
func TestTextsOfLines(t *testing.T) {
	heads := []string{"U 0..9", "< A..C 0..9", "U", "", "U 0..9 ", "1:2"}
	lines := []string{"1:2", ":2", "A;1:2", ";:2", "1;:2", "<5:0", "-;-:99", "-:9", "", "1:100", "U 0..9", "\xff:1"}
	good := 0
	for _, head := range heads {
		texts := []string{head}
		for range 4 {
			var longer []string
			for _, text := range texts {
				checkAgainstGrammar(t, text)
				if checkAgainstGrammar(t, text+"\n") {
					good++
				}
				for _, line := range lines {
					longer = append(longer, text+"\n"+line)
				}
			}
			texts = longer
		}
	}
	if good < 100 {
		t.Errorf("only %d texts of tables were tried", good)
	}
}

// TestTablesAreReadBack has each number of columns and of rules, up to one too many.
func TestTablesAreReadBack(t *testing.T) {
	columns := columnsOf(numbers(-3, 3), letters(6), numbers(93, 99), numbers(-99, -93), numbers(0, 6))
	next := uint(1)
	for wide := range len(columns) + 1 {
		for long := range 14 {
			x := tableOf(1+(wide+long)%10, columns[:wide])
			for n := range long {
				r := rule((7*n + long) % 100)
				for _, c := range x.Columns {
					next = next*5 + 3
					r.Tests = append(r.Tests, fromBits(next>>2%128, c.Lo))
				}
				x.Rules = append(x.Rules, r)
			}
			good := 1 <= wide && wide <= 4 && long <= 12
			if impl.TableValid(x) != good || (impl.FormatTable(x) != "") != good {
				t.Errorf("TableValid = %v, FormatTable = %q for %d columns and %d rules", !good, impl.FormatTable(x), wide, long)
			}
			if good {
				checkParseTable(t, impl.FormatTable(x), x, true)
			}
		}
	}
}

// TestInputs has each list of values within columns, and next to them.
func TestInputs(t *testing.T) {
	x := tableOf(1, columnsOf(numbers(-2, 1), letters(2)), rule(1, row(0, 1), row(0, 2)))
	for a := -4; a <= 4; a++ {
		for b := -2; b <= 5; b++ {
			want := -2 <= a && a <= 1 && 0 <= b && b <= 2
			if impl.InputValid(x, []int{a, b}) != want {
				t.Errorf("InputValid(%d, %d) = %v", a, b, !want)
			}
			if matches := want && a >= 0; impl.RuleMatches(x, 0, []int{a, b}) != matches {
				t.Errorf("RuleMatches(%d, %d) = %v", a, b, !matches)
			}
		}
	}
	for _, in := range [][]int{nil, {}, {0}, {0, 0, 0}, {0, 0, 0, 0}, make([]int, 1000), {0, math.MaxInt}, {math.MinInt, 0}, {1 << 32, 0}, {0, 256}, {0, 'A'}} {
		if impl.InputValid(x, in) || impl.RuleMatches(x, 0, in) || len(impl.MatchesOf(x, in)) != 0 {
			t.Errorf("%v is an input", in)
		}
	}
}

// TestInputsAtEnds has the ends of columns at the limits, and the numbers next to them.
func TestInputsAtEnds(t *testing.T) {
	for _, c := range goodColumns() {
		x := tableOf(2, columnsOf(c, c), rule(1, row(c.Lo, c.Lo), row(c.Hi, c.Hi)), rule(2, row(c.Lo, c.Hi), row(c.Lo, c.Hi)), rule(3, row(c.Lo, c.Hi), nil))
		for _, ends := range [][2]int{{c.Lo, c.Hi}, {c.Hi, c.Lo}, {c.Lo, c.Lo}, {c.Hi, c.Hi}} {
			want := []int{1}
			if ends == [2]int{c.Lo, c.Hi} {
				want = []int{0, 1}
			}
			if got := impl.MatchesOf(x, ends[:]); !impl.InputValid(x, ends[:]) || !slices.Equal(got, want) {
				t.Errorf("MatchesOf(%v, %v) = %v, want %v", x, ends, got, want)
			}
		}
		for _, in := range [][]int{{c.Lo - 1, c.Hi}, {c.Hi + 1, c.Lo}, {c.Lo, c.Hi + 1}, {c.Hi, c.Lo - 1}, {c.Lo}, {c.Lo, c.Lo, c.Lo}} {
			if impl.InputValid(x, in) || len(impl.MatchesOf(x, in)) != 0 || impl.RuleMatches(x, 1, in) {
				t.Errorf("%v is an input of %v", in, x)
			}
		}
	}
}

// wantMatches are the rules that match, by the numbers in the spans of their tests.
func wantMatches(x impl.Table, in []int) []int {
	var list []int
	for n, r := range x.Rules {
		count := 0
		for k, s := range r.Tests {
			if slices.ContainsFunc(s, func(x impl.Span) bool { return x.Lo <= in[k] && in[k] <= x.Hi }) {
				count++
			}
		}
		if count == len(in) {
			list = append(list, n)
		}
	}
	return list
}

// checkMatches checks which rules match an input.
func checkMatches(t *testing.T, x impl.Table, in []int) {
	t.Helper()
	want := wantMatches(x, in)
	if got := impl.MatchesOf(x, in); !impl.InputValid(x, in) || !slices.Equal(got, want) {
		t.Errorf("MatchesOf(%v, %v) = %v, want %v", x, in, got, want)
	}
	for n := -2; n < len(x.Rules)+2; n++ {
		if got := impl.RuleMatches(x, n, in); got != slices.Contains(want, n) {
			t.Errorf("RuleMatches(%v, %d, %v) = %v", x, n, in, got)
		}
	}
	for _, n := range []int{math.MinInt, math.MaxInt, -len(x.Rules), 1 << 32, impl.MaxRules} {
		if impl.RuleMatches(x, n, in) {
			t.Errorf("RuleMatches(%v, %d, %v) = true", x, n, in)
		}
	}
}

// allInputs calls f with each input of some columns.
func allInputs(columns []impl.Column, f func(in []int)) {
	in := make([]int, len(columns))
	var fill func(k int)
	fill = func(k int) {
		if k == len(columns) {
			f(in)
			return
		}
		for in[k] = columns[k].Lo; in[k] <= columns[k].Hi; in[k]++ {
			fill(k + 1)
		}
	}
	fill(0)
}

// TestMatches has all inputs of tables with one to four columns and none to twelve rules, under each policy.
func TestMatches(t *testing.T) {
	columns := columnsOf(numbers(-1, 2), letters(2), numbers(97, 99), numbers(-99, -98))
	next := uint(9)
	for wide := 1; wide <= 4; wide++ {
		for long := range 13 {
			x := tableOf(1+(wide*13+long)%10, columns[:wide])
			for range long {
				r := rule(long)
				for _, c := range x.Columns {
					next = next*1103515245 + 12345
					all := uint(1)<<(c.Hi-c.Lo+1) - 1
					r.Tests = append(r.Tests, fromBits((next>>20|next>>24)&all, c.Lo))
				}
				x.Rules = append(x.Rules, r)
			}
			count := 0
			allInputs(x.Columns, func(in []int) {
				count++
				checkMatches(t, x, in)
			})
			if got := impl.InputsOf(x); got != count {
				t.Errorf("InputsOf(%v) = %d, want %d", x, got, count)
			}
		}
	}
}

// TestMatchesOfTwoTests has all pairs of tests of two small columns.
func TestMatchesOfTwoTests(t *testing.T) {
	columns := columnsOf(numbers(0, 2), letters(1))
	for a := range uint(8) {
		for b := range uint(4) {
			x := tableOf(1, columns, rule(0, fromBits(a, 0), fromBits(b, 0)))
			allInputs(columns, func(in []int) {
				want := a>>in[0]&1 == 1 && b>>in[1]&1 == 1
				if impl.RuleMatches(x, 0, in) != want || (len(impl.MatchesOf(x, in)) == 1) != want {
					t.Errorf("RuleMatches(%v, 0, %v) = %v", x, in, !want)
				}
			})
		}
	}
}

func TestMatchesExamples(t *testing.T) {
	x, ok := impl.ParseTable("U 0..9\n<3:1\n2..5:2\n")
	if got := impl.MatchesOf(x, []int{2}); !ok || !slices.Equal(got, []int{0, 1}) {
		t.Errorf("MatchesOf = %v", got)
	}
	none := tableOf(1, columnsOf(numbers(0, 9)))
	if got := impl.MatchesOf(none, []int{2}); !impl.InputValid(none, []int{2}) || len(got) != 0 || impl.RuleMatches(none, 0, []int{2}) {
		t.Errorf("MatchesOf = %v for a table without rules", got)
	}
	all := tableOf(1, columnsOf(numbers(0, 9)), manyRules(12, row(0, 9))...)
	if got := impl.MatchesOf(all, []int{9}); !slices.Equal(got, []int{0, 1, 2, 3, 4, 5, 6, 7, 8, 9, 10, 11}) {
		t.Errorf("MatchesOf = %v for 12 rules", got)
	}
	empty := tableOf(1, columnsOf(numbers(0, 9), numbers(0, 9)), rule(1, row(0, 9), nil), rule(2, nil, row(0, 9)), rule(3, nil, nil), rule(4, row(0, 9), row(0, 9)))
	allInputs(empty.Columns, func(in []int) {
		if got := impl.MatchesOf(empty, in); !slices.Equal(got, []int{3}) {
			t.Errorf("MatchesOf(%v) = %v for tests without values", in, got)
		}
	})
}

func TestInputsOf(t *testing.T) {
	wide, one := numbers(impl.MinNum, impl.MaxNum), numbers(7, 7)
	cases := []struct {
		columns []impl.Column
		want    int
	}{
		{columnsOf(one), 1}, {columnsOf(one, one, one, one), 1}, {columnsOf(letters(25)), 26}, {columnsOf(wide), 199}, {columnsOf(numbers(0, 9), letters(2)), 30},
		{columnsOf(numbers(-5, 20), one, letters(0), numbers(0, 1)), 52}, {columnsOf(wide, wide, wide), 7880599}, {columnsOf(wide, wide, wide, wide), 1568239201},
		{nil, 0}, {columnsOf(wide, wide, wide, wide, one), 0},
	}
	for _, c := range cases {
		for _, rules := range [][]impl.Rule{nil, {rule(1, make([][]impl.Span, len(c.columns))...)}} {
			if got := impl.InputsOf(tableOf(3, c.columns, rules...)); got != c.want {
				t.Errorf("InputsOf(%v) = %d, want %d", c.columns, got, c.want)
			}
		}
	}
}

// spoil writes over all memory of a table, also behind the ends of its slices.
func spoil(x impl.Table) {
	for _, r := range x.Rules {
		for _, s := range r.Tests {
			s = s[:cap(s)]
			for i := range s {
				s[i] = impl.Span{Lo: 77, Hi: 77}
			}
		}
		tests := r.Tests[:cap(r.Tests)]
		for k := range tests {
			tests[k] = nil
		}
	}
	rules, columns := x.Rules[:cap(x.Rules)], x.Columns[:cap(x.Columns)]
	for n := range rules {
		rules[n] = impl.Rule{Out: 77}
	}
	for k := range columns {
		columns[k] = numbers(77, 77)
	}
}

// checkTestsApart writes over each test of a table, also behind its end, and looks at the others. The table is not to be used afterwards.
func checkTestsApart(t *testing.T, what string, x impl.Table) {
	t.Helper()
	for n, r := range x.Rules {
		for k, s := range r.Tests {
			want := cloneTable(x)
			want.Rules[n].Tests[k] = nil
			for i := range s[:cap(s)] {
				s[:cap(s)][i] = impl.Span{Lo: 77, Hi: 77}
			}
			r.Tests[k] = nil
			_ = append(r.Tests, row(77, 77))
			if show(x) != show(want) {
				t.Fatalf("tests of %s share memory", what)
			}
		}
	}
}

// TestTablesShareNoMemory writes over results, as a whole, and each test of a rule for itself.
func TestTablesShareNoMemory(t *testing.T) {
	for text, want := range goodTables() {
		first, _ := impl.ParseTable(text)
		second, _ := impl.ParseTable(text)
		spoil(first)
		third, _ := impl.ParseTable(text)
		if show(second) != show(want) || show(third) != show(want) {
			t.Errorf("ParseTable(%q) shares memory", text)
		}
		checkTestsApart(t, fmt.Sprintf("ParseTable(%q)", text), second)
	}
	x := tableOf(1, columnsOf(numbers(0, 9)), manyRules(12, row(0, 9))...)
	first := impl.MatchesOf(x, []int{4})
	second := impl.MatchesOf(x, []int{4})
	for i := range first[:cap(first)] {
		first[:cap(first)][i] = 77
	}
	if !slices.Equal(second, impl.MatchesOf(x, []int{4})) || len(second) != 12 || second[11] != 11 {
		t.Error("MatchesOf shares memory")
	}
}

// TestArgumentsStay checks that tables and inputs stay as they are, also behind their ends.
func TestArgumentsStay(t *testing.T) {
	whole := tableOf(1, columnsOf(numbers(0, 9), letters(2), numbers(77, 77)), rule(1, row(0, 2, 4, 4, 6, 9), row(0, 1), row(3, 4)), rule(2, nil, row(0, 2), row(5, 5)), rule(3))
	kept := cloneTable(whole)
	x := impl.Table{Columns: whole.Columns[:2], Policy: 1, Rules: slices.Clone(whole.Rules)[:2]}
	for n, r := range x.Rules {
		x.Rules[n].Tests = r.Tests[:2]
	}
	x.Rules[0].Tests[0] = x.Rules[0].Tests[0][:2]
	in := []int{4, 1, 77, 78}
	if got := impl.FormatTable(x); got != "U 0..9 A..C\n0..2,4;A..B:1\n;-:2\n" {
		t.Errorf("FormatTable = %q", got)
	}
	impl.TableSame(x, whole)
	if got := impl.MatchesOf(x, in[:2]); !slices.Equal(got, []int{0}) || !impl.RuleMatches(x, 0, in[:2]) || impl.InputsOf(x) != 30 {
		t.Errorf("MatchesOf = %v", got)
	}
	whole.Rules[0].Tests[0] = whole.Rules[0].Tests[0][:3]
	if show(whole) != show(kept) || !slices.Equal(in, []int{4, 1, 77, 78}) {
		t.Errorf("the table is %v, and the input %v", whole, in)
	}
}
