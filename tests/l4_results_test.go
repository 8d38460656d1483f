package tests

import (
	"fmt"
	"math"
	"slices"
	"strings"
	"testing"

	"loop.example/decisiontables/impl"
)

// okay makes a result of outputs.
func okay(outs ...int) impl.Result { return impl.Result{Code: 0, Outs: outs} }

// ended makes a result without outputs.
func ended(code int) impl.Result { return impl.Result{Code: code} }

// noPolicies are numbers of no hit policy.
func noPolicies() []int {
	return []int{0, 11, -1, -10, 12, 100, 'U', math.MinInt, math.MaxInt, 1 << 32, 1<<32 + 1}
}

// noOutputs are numbers that no rule can have as an output.
func noOutputs() []int {
	return []int{-1, 100, -99, 101, 1000, math.MinInt, math.MaxInt, 1 << 32, 1<<32 + 5}
}

// checkResult checks a result, by its fields.
func checkResult(t *testing.T, what string, got, want impl.Result) {
	t.Helper()
	if got.Code != want.Code || !slices.Equal(got.Outs, want.Outs) {
		t.Errorf("%s = %v, want %v", what, got, want)
	}
}

// wantResult decides as the document's sentences say it, by the outputs in ascending order.
func wantResult(policy int, outs []int) impl.Result {
	up := slices.Sorted(slices.Values(outs))
	if policy < 1 || policy > 10 || len(outs) > 12 || len(up) > 0 && (up[0] < 0 || up[len(up)-1] > 99) {
		return ended(3)
	}
	letter := letterOfPolicy[policy : policy+1]
	different := len(slices.Compact(slices.Clone(up)))
	switch {
	case letter == "#":
		return okay(len(outs))
	case len(outs) == 0:
		return ended(1)
	case letter == "U" && len(outs) > 1 || letter == "A" && different > 1:
		return ended(2)
	case letter == "R":
		return okay(outs...)
	case letter == "O":
		slices.Reverse(up)
		return okay(up...)
	case letter == "+":
		total := 0
		for _, out := range outs {
			total += out
		}
		return okay(total)
	case letter == "P" || letter == ">":
		return okay(up[len(up)-1])
	case letter == "<":
		return okay(up[0])
	}
	return okay(outs[0])
}

func TestResultConstants(t *testing.T) {
	codes := []int{impl.DecideOk, impl.DecideNone, impl.DecideConflict, impl.DecideInvalid}
	if !slices.Equal(codes, []int{0, 1, 2, 3}) {
		t.Errorf("codes are %v", codes)
	}
}

// TestDecideOuts has, for each policy, no outputs, one, several equal ones and different ones, up to the limits.
func TestDecideOuts(t *testing.T) {
	up, down, most := []int{0, 1, 2, 3, 4, 5, 6, 7, 8, 9, 10, 11}, []int{11, 10, 9, 8, 7, 6, 5, 4, 3, 2, 1, 0}, slices.Repeat([]int{99}, 12)
	lists := [][]int{nil, {5}, {0}, {99}, {4, 4}, {0, 0, 0}, {3, 1, 3}, {0, 99}, {99, 0}, {1, 3, 2}, up, down, most}
	want := map[int]string{
		impl.PolicyUnique:   "none 5 0 99 conflict conflict conflict conflict conflict conflict conflict conflict conflict",
		impl.PolicyAny:      "none 5 0 99 4 0 conflict conflict conflict conflict conflict conflict 99",
		impl.PolicyPriority: "none 5 0 99 4 0 3 99 99 3 11 11 99",
		impl.PolicyFirst:    "none 5 0 99 4 0 3 0 99 1 0 11 99",
		impl.PolicyRules:    "none 5 0 99 4,4 0,0,0 3,1,3 0,99 99,0 1,3,2 0,1,2,3,4,5,6,7,8,9,10,11 11,10,9,8,7,6,5,4,3,2,1,0 99,99,99,99,99,99,99,99,99,99,99,99",
		impl.PolicyOutputs:  "none 5 0 99 4,4 0,0,0 3,3,1 99,0 99,0 3,2,1 11,10,9,8,7,6,5,4,3,2,1,0 11,10,9,8,7,6,5,4,3,2,1,0 99,99,99,99,99,99,99,99,99,99,99,99",
		impl.PolicySum:      "none 5 0 99 8 0 7 99 99 6 66 66 1188",
		impl.PolicyLeast:    "none 5 0 99 4 0 1 0 0 1 0 0 99",
		impl.PolicyMost:     "none 5 0 99 4 0 3 99 99 3 11 11 99",
		impl.PolicyCount:    "0 1 1 1 2 3 3 2 2 3 12 12 12",
	}
	for policy, line := range want {
		for k, text := range strings.Split(line, " ") {
			got := impl.DecideOuts(policy, lists[k])
			if impl.FormatResult(got) != text {
				t.Errorf("FormatResult(DecideOuts(%d, %v)) = %q, want %q", policy, lists[k], impl.FormatResult(got), text)
			}
			checkResult(t, "DecideOuts", got, wantResult(policy, lists[k]))
		}
	}
	if len(want) != 10 {
		t.Errorf("%d policies were tried", len(want))
	}
}

// TestDecideOutsOfAllLists has each list of up to six of three outputs, and of two of all outputs.
func TestDecideOutsOfAllLists(t *testing.T) {
	lists := [][]int{{}}
	for n := 0; len(lists[n]) < 6; n++ {
		for _, out := range []int{0, 7, 99} {
			lists = append(lists, append(slices.Clone(lists[n]), out))
		}
	}
	for a := range 100 {
		for b := range 100 {
			lists = append(lists, []int{a, b})
		}
	}
	for _, outs := range lists {
		kept := slices.Clone(outs)
		for policy := -1; policy <= 12; policy++ {
			checkResult(t, "DecideOuts", impl.DecideOuts(policy, outs), wantResult(policy, kept))
		}
		if !slices.Equal(outs, kept) {
			t.Fatalf("DecideOuts changes %v to %v", kept, outs)
		}
	}
}

// TestDecideOutsSorts has twelve outputs in many orders.
func TestDecideOutsSorts(t *testing.T) {
	outs := []int{0, 0, 1, 5, 5, 5, 9, 42, 98, 98, 99, 99}
	next := uint(1)
	for range 2000 {
		next = next*1103515245 + 12345
		i, j := next>>20%12, next>>30%12
		outs[i], outs[j] = outs[j], outs[i]
		for policy := 1; policy <= 10; policy++ {
			checkResult(t, "DecideOuts", impl.DecideOuts(policy, outs), wantResult(policy, outs))
		}
	}
}

// TestDecideOutsRefuses has policies that are none, outputs that no rule has, and too many outputs; this precedes other ends.
func TestDecideOutsRefuses(t *testing.T) {
	for _, policy := range noPolicies() {
		for _, outs := range [][]int{nil, {}, {0}, {1, 1}, {1, 2}, {100}, make([]int, 13)} {
			checkResult(t, "DecideOuts", impl.DecideOuts(policy, outs), ended(impl.DecideInvalid))
		}
	}
	for policy := 1; policy <= 10; policy++ {
		checkResult(t, "DecideOuts of 12", impl.DecideOuts(policy, make([]int, 12)), wantResult(policy, make([]int, 12)))
		for _, count := range []int{13, 14, 24, 10000} {
			checkResult(t, "DecideOuts of too many", impl.DecideOuts(policy, make([]int, count)), ended(impl.DecideInvalid))
		}
		for _, bad := range noOutputs() {
			for count := 1; count <= 12; count++ {
				for at := range count {
					outs := make([]int, count)
					outs[at] = bad
					checkResult(t, "DecideOuts of a bad output", impl.DecideOuts(policy, outs), ended(impl.DecideInvalid))
				}
			}
		}
	}
}

// smallTables are tables with few inputs, with none to twelve rules, under each policy.
func smallTables() []impl.Table {
	columns := columnsOf(numbers(-1, 2), letters(2), numbers(97, 99), numbers(-99, -98))
	outs := []int{3, 0, 3, 99, 1, 3}
	next := uint(5)
	var list []impl.Table
	for policy := 1; policy <= 10; policy++ {
		for long := range 13 {
			x := tableOf(policy, columns[:1+(policy+long)%4])
			for range long {
				next = next*1103515245 + 12345
				r := rule(outs[next>>16%6])
				for _, c := range x.Columns {
					next = next*1103515245 + 12345
					all := uint(1)<<(c.Hi-c.Lo+1) - 1
					r.Tests = append(r.Tests, fromBits((next>>20|next>>24)&all, c.Lo))
				}
				x.Rules = append(x.Rules, r)
			}
			list = append(list, x)
		}
	}
	return list
}

// outsOf are the outputs of the rules that match.
func outsOf(x impl.Table, in []int) []int {
	var outs []int
	for _, n := range wantMatches(x, in) {
		outs = append(outs, x.Rules[n].Out)
	}
	return outs
}

// TestDecide has all inputs of small tables.
func TestDecide(t *testing.T) {
	codes := make([]int, 4)
	for _, x := range smallTables() {
		allInputs(x.Columns, func(in []int) {
			got := impl.Decide(x, in)
			checkResult(t, impl.FormatTable(x), got, wantResult(x.Policy, outsOf(x, in)))
			codes[got.Code]++
		})
	}
	if codes[0] < 1000 || codes[1] < 100 || codes[2] < 100 || codes[3] > 0 {
		t.Errorf("there were %v results by code", codes)
	}
}

// TestDecideExamples has a table without rules, and one with as many as possible, under each policy.
func TestDecideExamples(t *testing.T) {
	for policy := 1; policy <= 10; policy++ {
		none := tableOf(policy, columnsOf(numbers(0, 9)))
		checkResult(t, "Decide without rules", impl.Decide(none, []int{4}), wantResult(policy, nil))
		all := tableOf(policy, columnsOf(numbers(0, 9)), manyRules(12, row(0, 4))...)
		checkResult(t, "Decide with 12 rules", impl.Decide(all, []int{4}), wantResult(policy, []int{0, 1, 2, 3, 4, 5, 6, 7, 8, 9, 10, 11}))
		checkResult(t, "Decide beside 12 rules", impl.Decide(all, []int{5}), wantResult(policy, nil))
		ends := tableOf(policy, columnsOf(numbers(0, 9)), rule(99, row(0, 0)), rule(0, row(0, 9)))
		checkResult(t, "Decide with 99 and 0", impl.Decide(ends, []int{0}), wantResult(policy, []int{99, 0}))
		checkResult(t, "Decide with 0", impl.Decide(ends, []int{9}), wantResult(policy, []int{0}))
	}
}

// TestDecideRefuses has tables that are not valid, and lists that are no inputs.
func TestDecideRefuses(t *testing.T) {
	for name, x := range badTables() {
		for _, in := range [][]int{nil, {}, {0}, {1}, {0, 0}, {1, 1}, {-99, 0}, {0, 0, 0}, {0, 0, 0, 0}, {0, 0, 0, 0, 0}} {
			checkResult(t, name, impl.Decide(x, in), ended(impl.DecideInvalid))
			for n := -1; n <= len(x.Rules); n++ {
				if impl.RuleUsed(x, n, in) {
					t.Errorf("%s: RuleUsed(%d, %v) = true", name, n, in)
				}
			}
		}
	}
	for policy := 1; policy <= 10; policy++ {
		x := tableOf(policy, columnsOf(numbers(-2, 1), letters(2)), rule(1, row(-2, 1), row(0, 2)))
		for _, in := range [][]int{nil, {}, {0}, {0, 0, 0}, {0, 0, 0, 0}, {-3, 0}, {2, 0}, {0, -1}, {0, 3}, {0, 'A'}, {0, math.MaxInt}, {math.MinInt, 0}, {1 << 32, 0}} {
			checkResult(t, "Decide of no input", impl.Decide(x, in), ended(impl.DecideInvalid))
			if impl.RuleUsed(x, 0, in) {
				t.Errorf("RuleUsed(%v, 0, %v) = true", x, in)
			}
		}
	}
}

// TestResultSame holds results, also such as no table has, against each other.
func TestResultSame(t *testing.T) {
	list := []impl.Result{okay(), ended(1), ended(2), ended(3), ended(4), ended(-1), ended(math.MaxInt), ended(math.MinInt), okay(0), okay(1), okay(0, 0), okay(0, 1), okay(1, 0), okay(0, 1, 0), okay(-1), okay(100), okay(math.MaxInt), {Code: 1, Outs: []int{0}}, {Code: 2, Outs: []int{0}}, {Code: 9, Outs: []int{0, 1}}, okay(make([]int, 13)...), okay(make([]int, 14)...)}
	for i, a := range list {
		for j, b := range list {
			if impl.ResultSame(a, impl.Result{Code: b.Code, Outs: slices.Clone(b.Outs)}) != (i == j) {
				t.Errorf("ResultSame(%v, %v) = %v", a, b, i != j)
			}
		}
		empty := impl.Result{Code: a.Code, Outs: []int{}}
		if impl.ResultSame(a, empty) != (len(a.Outs) == 0) || impl.ResultSame(empty, a) != (len(a.Outs) == 0) {
			t.Errorf("ResultSame(%v, %v) is wrong", a, empty)
		}
	}
}

func TestFormatResult(t *testing.T) {
	cases := []struct {
		result impl.Result
		want   string
	}{
		{okay(), ""}, {okay(0), "0"}, {okay(7), "7"}, {okay(99), "99"}, {okay(100), "100"}, {okay(1188), "1188"}, {okay(math.MaxInt), "9223372036854775807"},
		{okay(3, 3, 1), "3,3,1"}, {okay(0, 0), "0,0"}, {okay(1, 3), "1,3"}, {okay(slices.Repeat([]int{10}, 13)...), strings.Repeat(",10", 13)[1:]}, {okay(make([]int, 1000)...), strings.Repeat(",0", 1000)[1:]},
		{ended(1), "none"}, {ended(2), "conflict"}, {ended(3), "invalid"},
		{impl.Result{Code: 1, Outs: []int{5}}, "none"}, {impl.Result{Code: 2, Outs: []int{-5, 5}}, "conflict"}, {impl.Result{Code: 3, Outs: []int{-5}}, "invalid"},
		{okay(-1), ""}, {okay(-1, 5), ""}, {okay(5, -1), ""}, {okay(5, -1, 6), ""}, {okay(math.MinInt), ""}, {okay(5, math.MinInt), ""},
		{ended(4), ""}, {ended(-1), ""}, {ended(-2), ""}, {ended(-3), ""}, {ended(5), ""}, {ended(math.MaxInt), ""}, {ended(math.MinInt), ""}, {ended(1 << 32), ""}, {ended(1<<32 + 1), ""},
		{impl.Result{Code: 4, Outs: []int{5}}, ""}, {impl.Result{Code: -1, Outs: []int{5}}, ""}, {impl.Result{Code: 256, Outs: []int{5}}, ""},
	}
	for _, c := range cases {
		if got := impl.FormatResult(c.result); got != c.want {
			t.Errorf("FormatResult(%v) = %q, want %q", c.result, got, c.want)
		}
	}
}

// wantUsed tells whether a rule counts: by the outputs of the rules that match, without the result.
func wantUsed(x impl.Table, n int, in []int) bool {
	matches := wantMatches(x, in)
	if !slices.Contains(matches, n) {
		return false
	}
	for _, m := range matches {
		out := x.Rules[m].Out
		switch letter := letterOfPolicy[x.Policy]; {
		case letter == 'F' && m < n:
			return false
		case (letter == 'P' || letter == '>') && out > x.Rules[n].Out:
			return false
		case letter == '<' && out < x.Rules[n].Out:
			return false
		}
	}
	return true
}

// TestRuleUsed has all rules and inputs of small tables, and numbers of no rules.
func TestRuleUsed(t *testing.T) {
	used, unused := make([]int, 11), make([]int, 11)
	for _, x := range smallTables() {
		allInputs(x.Columns, func(in []int) {
			for n := -2; n < len(x.Rules)+2; n++ {
				want := wantUsed(x, n, in)
				if impl.RuleUsed(x, n, in) != want {
					t.Errorf("RuleUsed(%q, %d, %v) = %v", impl.FormatTable(x), n, in, !want)
				}
				if want {
					used[x.Policy]++
				} else if impl.RuleMatches(x, n, in) {
					unused[x.Policy]++
				}
			}
			for _, n := range []int{math.MinInt, math.MaxInt, -len(x.Rules) - 1, 1 << 32, 12, 13} {
				if impl.RuleUsed(x, n, in) {
					t.Errorf("RuleUsed(%q, %d, %v) = true", impl.FormatTable(x), n, in)
				}
			}
		})
	}
	for policy := 1; policy <= 10; policy++ {
		if used[policy] < 50 || strings.ContainsRune("PF<>", rune(letterOfPolicy[policy])) != (unused[policy] > 50) {
			t.Errorf("%d rules counted under the policy %d, and %d that match did not", used[policy], policy, unused[policy])
		}
	}
}

// TestRuleUsedExamples has equal outputs, which count together, and results without outputs, for which all rules that match count.
func TestRuleUsedExamples(t *testing.T) {
	want := map[string]string{"U": "01245", "A": "01245", "P": "15", "F": "0", "R": "01245", "O": "01245", "+": "01245", "<": "04", ">": "15", "#": "01245"}
	for letter, rules := range want {
		x, ok := impl.ParseTable(letter + " 0..9\n2..4:0\n-:99\n3..9:5\n:0\n3:0\n<9:99\n")
		if !ok {
			t.Fatalf("there is no policy %s", letter)
		}
		for n := -1; n <= 6; n++ {
			if got := impl.RuleUsed(x, n, []int{3}); got != (n >= 0 && strings.ContainsRune(rules, rune('0'+n))) {
				t.Errorf("RuleUsed(%q, %d, 3) = %v", impl.FormatTable(x), n, got)
			}
		}
		for n := range 6 {
			alone := n == 1 || n == 5
			if got := impl.RuleUsed(x, n, []int{0}); got != (alone && (letter != "F" || n == 1)) {
				t.Errorf("RuleUsed(%q, %d, 0) = %v", impl.FormatTable(x), n, got)
			}
		}
	}
}

// TestWithPolicy has each two policies.
func TestWithPolicy(t *testing.T) {
	for text, x := range goodTables() {
		for policy := 1; policy <= 10; policy++ {
			want := cloneTable(x)
			want.Policy = policy
			got, ok := impl.WithPolicy(x, policy)
			if !ok || show(got) != show(want) || impl.FormatTable(got) != letterOfPolicy[policy:policy+1]+text[1:] {
				t.Errorf("WithPolicy(%q, %d) = %v, %v", text, policy, got, ok)
			}
			if impl.FormatTable(x) != text {
				t.Fatalf("WithPolicy changes %q to %q", text, impl.FormatTable(x))
			}
		}
		for _, policy := range noPolicies() {
			if got, ok := impl.WithPolicy(x, policy); ok || show(got) != show(impl.Table{}) {
				t.Errorf("WithPolicy(%q, %d) = %v, %v", text, policy, got, ok)
			}
		}
	}
	for name, x := range badTables() {
		for policy := range 12 {
			if got, ok := impl.WithPolicy(x, policy); ok || show(got) != show(impl.Table{}) {
				t.Errorf("%s: WithPolicy(%d) = %v, %v", name, policy, got, ok)
			}
		}
	}
}

// TestWithPolicySharesNoMemory writes over results and arguments.
func TestWithPolicySharesNoMemory(t *testing.T) {
	for text, x := range goodTables() {
		first, _ := impl.WithPolicy(x, 4)
		second, _ := impl.WithPolicy(x, 4)
		kept := show(second)
		spoil(first)
		if show(second) != kept || impl.FormatTable(x) != text {
			t.Fatalf("WithPolicy(%q) shares memory with another result, or with the table", text)
		}
		checkTestsApart(t, fmt.Sprintf("WithPolicy(%q)", text), second)
	}
}

// TestResultsShareNoMemory writes over results, also behind the ends of their outputs.
func TestResultsShareNoMemory(t *testing.T) {
	x := tableOf(1, columnsOf(numbers(0, 9)), manyRules(11, row(0, 9))...)
	for policy := 1; policy <= 10; policy++ {
		x.Policy = policy
		whole := []int{0, 1, 2, 3, 4, 5, 6, 7, 8, 9, 10, 50}
		outs := whole[:11]
		list := []impl.Result{impl.DecideOuts(policy, outs), impl.DecideOuts(policy, outs), impl.DecideOuts(policy, outs[:1]), impl.Decide(x, []int{4}), impl.Decide(x, []int{4})}
		wants := []impl.Result{wantResult(policy, outs), wantResult(policy, outs), wantResult(policy, outs[:1]), wantResult(policy, outs), wantResult(policy, outs)}
		for k, r := range list {
			checkResult(t, "a result", r, wants[k])
			for i := range r.Outs[:cap(r.Outs)] {
				r.Outs[:cap(r.Outs)][i] = 77
			}
		}
		if !slices.Equal(whole, []int{0, 1, 2, 3, 4, 5, 6, 7, 8, 9, 10, 50}) {
			t.Errorf("results of the policy %d share memory: %v", policy, whole)
		}
	}
}

// TestDecideKeepsArguments checks that tables, inputs and results stay as they are, also behind their ends.
func TestDecideKeepsArguments(t *testing.T) {
	for policy := 1; policy <= 10; policy++ {
		whole := tableOf(policy, columnsOf(numbers(0, 9), letters(2), numbers(77, 77)), rule(7, row(0, 2, 4, 4, 6, 9), row(0, 1)), rule(9, row(0, 9), row(0, 2)), rule(8, row(4, 4), row(0, 2)), rule(3))
		kept := cloneTable(whole)
		x := impl.Table{Columns: whole.Columns[:2], Policy: policy, Rules: whole.Rules[:3]}
		in := []int{4, 1, 77, 78}
		checkResult(t, "Decide", impl.Decide(x, in[:2]), wantResult(policy, []int{7, 9, 8}))
		impl.RuleUsed(x, 1, in[:2])
		impl.WithPolicy(x, 5)
		r := okay(5, 2, 1, 77)
		impl.FormatResult(impl.Result{Outs: r.Outs[:3]})
		impl.ResultSame(r, impl.Result{Outs: r.Outs[:3]})
		if show(whole) != show(kept) || !slices.Equal(in, []int{4, 1, 77, 78}) || !slices.Equal(r.Outs, []int{5, 2, 1, 77}) {
			t.Errorf("the table is %v, the input %v, and the result %v", whole, in, r)
		}
	}
}
