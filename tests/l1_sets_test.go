package tests

import (
	"math"
	"slices"
	"testing"

	"loop.example/decisiontables/impl"
)

// row makes spans of pairs of ends.
func row(ends ...int) []impl.Span {
	list := []impl.Span{}
	for i := 0; i+1 < len(ends); i += 2 {
		list = append(list, impl.Span{Lo: ends[i], Hi: ends[i+1]})
	}
	return list
}

// singles makes count spans of one number each, every second number from lo on.
func singles(count, lo int) []impl.Span {
	list := []impl.Span{}
	for i := range count {
		list = append(list, impl.Span{Lo: lo + 2*i, Hi: lo + 2*i})
	}
	return list
}

// fromBits makes the set of the numbers lo + i for each bit i of bits.
func fromBits(bits uint, lo int) []impl.Span {
	list := []impl.Span{}
	for i := 0; bits>>i != 0; i++ {
		if bits>>i&1 == 0 {
			continue
		}
		if last := len(list) - 1; last >= 0 && list[last].Hi == lo+i-1 {
			list[last].Hi++
		} else {
			list = append(list, impl.Span{Lo: lo + i, Hi: lo + i})
		}
	}
	return list
}

// badSets are lists of spans that are no sets.
func badSets() map[string][]impl.Span {
	return map[string][]impl.Span{
		"span without numbers":    row(2, 1),
		"spans touch":             row(1, 2, 3, 4),
		"spans overlap":           row(1, 3, 2, 4),
		"spans repeat":            row(1, 1, 1, 1),
		"spans descend":           row(5, 5, 1, 1),
		"Lo is too small":         row(impl.MinNum-1, 0),
		"Hi is too great":         row(0, impl.MaxNum+1),
		"both are too small":      row(impl.MinNum-2, impl.MinNum-1),
		"both are too great":      row(impl.MaxNum+1, impl.MaxNum+1),
		"last span is bad":        row(1, 2, 4, 5, 9, 8),
		"13 spans":                singles(impl.MaxSpans+1, 0),
		"least and greatest int":  row(math.MinInt, math.MaxInt),
		"greatest int comes last": row(0, 0, math.MaxInt, math.MaxInt),
		"greatest int is a Hi":    row(0, math.MaxInt, 2, 3),
	}
}

// wantSpans checks a result of spans and whether they are a result at all.
func wantSpans(t *testing.T, what string, got []impl.Span, ok bool, want []impl.Span, wantOk bool) {
	t.Helper()
	if ok != wantOk || !slices.Equal(got, want) {
		t.Errorf("%s = %v, %v, want %v, %v", what, got, ok, want, wantOk)
	}
}

func TestSetLimits(t *testing.T) {
	if impl.MinNum != -99 || impl.MaxNum != 99 || impl.MaxSpans != 12 {
		t.Errorf("limits are %d, %d and %d", impl.MinNum, impl.MaxNum, impl.MaxSpans)
	}
}

func TestSetValid(t *testing.T) {
	good := [][]impl.Span{
		nil, {}, row(0, 0), row(1, 2, 4, 5), row(-3, -1, 1, 1),
		row(impl.MinNum, impl.MaxNum),
		row(impl.MinNum, impl.MinNum, impl.MaxNum, impl.MaxNum),
		singles(impl.MaxSpans, impl.MinNum), singles(impl.MaxSpans, impl.MaxNum-22),
	}
	for _, s := range good {
		if !impl.SetValid(s) {
			t.Errorf("SetValid(%v) = false", s)
		}
	}
	for name, s := range badSets() {
		if impl.SetValid(s) {
			t.Errorf("%s: SetValid(%v) = true", name, s)
		}
	}
}

func TestSetHas(t *testing.T) {
	s := row(impl.MinNum, -98, 0, 0, 3, 5, impl.MaxNum, impl.MaxNum)
	in := []int{-99, -98, 0, 3, 4, 5, 99}
	for n := impl.MinNum - 2; n <= impl.MaxNum+2; n++ {
		if impl.SetHas(s, n) != slices.Contains(in, n) {
			t.Errorf("SetHas(%v, %d) = %v", s, n, impl.SetHas(s, n))
		}
	}
	if impl.SetHas(nil, 0) || impl.SetHas(s, math.MinInt) || impl.SetHas(s, math.MaxInt) {
		t.Error("SetHas finds a number that is not there")
	}
}

func TestSetOf(t *testing.T) {
	full := row(impl.MinNum, impl.MaxNum)
	cases := []struct {
		name string
		list []impl.Span
		want []impl.Span
		ok   bool
	}{
		{"nil", nil, nil, true},
		{"empty", row(), nil, true},
		{"one number", row(7, 7), row(7, 7), true},
		{"touching", row(1, 3, 4, 6), row(1, 6), true},
		{"touching, turned", row(4, 6, 1, 3), row(1, 6), true},
		{"one number between", row(1, 3, 5, 6), row(1, 3, 5, 6), true},
		{"overlapping", row(1, 4, 3, 6), row(1, 6), true},
		{"one inside of another", row(1, 9, 3, 4, 10, 10), row(1, 10), true},
		{"same start", row(1, 2, 1, 9, 1, 4), row(1, 9), true},
		{"repeated", row(2, 2, 2, 2), row(2, 2), true},
		{"no numbers", row(2, 1), nil, true},
		{"no numbers beside some", row(9, 0, 3, 4, 99, -99), row(3, 4), true},
		{"no numbers do not join", row(1, 2, 4, 3, 5, 6), row(1, 2, 5, 6), true},
		{"least and greatest", row(99, 99, -99, -99), row(-99, -99, 99, 99), true},
		{"all numbers", row(0, 99, -99, -1), full, true},
		{"Lo is too small", row(-100, 0), nil, false},
		{"Lo is too great", row(100, 100), nil, false},
		{"Hi is too great", row(0, 100), nil, false},
		{"Hi is too small", row(-100, -100), nil, false},
		{"no numbers, and a Lo that is none", row(1, 2, 100, 0), nil, false},
		{"no numbers, and a Hi that is none", row(1, 2, 0, -100), nil, false},
		{"extreme ints", row(math.MinInt, math.MaxInt), nil, false},
		{"extreme ints, turned", row(math.MaxInt, math.MinInt), nil, false},
		{"12 spans", singles(12, 0), singles(12, 0), true},
		{"13 spans", singles(13, 0), nil, false},
		{"13 spans joined", append(singles(13, 0), row(0, 24)...), row(0, 24), true},
		{"13 spans joined to 12", append(singles(13, 0), row(1, 1)...), append(row(0, 2), singles(11, 4)...), true},
		{"99 spans", singles(99, -99), nil, false},
		{"100 elements", slices.Repeat(row(1, 1), 100), row(1, 1), true},
		{"101 elements", slices.Repeat(row(1, 1), 101), nil, false},
		{"100 elements without numbers", slices.Repeat(row(1, 0), 100), nil, true},
		{"101 elements without numbers", slices.Repeat(row(1, 0), 101), nil, false},
	}
	for _, c := range cases {
		got, ok := impl.SetOf(c.list)
		wantSpans(t, "SetOf of "+c.name, got, ok, c.want, c.ok)
	}
}

// TestSetOfAllPairs holds SetOf against a count of numbers, for each two spans of a few numbers.
func TestSetOfAllPairs(t *testing.T) {
	const most = 6
	for ends := range (most + 1) * (most + 1) * (most + 1) * (most + 1) {
		var e [4]int
		for i, left := 0, ends; i < 4; i++ {
			e[i], left = left%(most+1), left/(most+1)
		}
		bits := uint(0)
		for n := range most + 1 {
			if e[0] <= n && n <= e[1] || e[2] <= n && n <= e[3] {
				bits |= 1 << n
			}
		}
		got, ok := impl.SetOf(row(e[:]...))
		if !ok || !slices.Equal(got, fromBits(bits, 0)) {
			t.Fatalf("SetOf(%v) = %v, %v", e, got, ok)
		}
	}
}

// TestSetAlgebra holds the operations against those of bits, for each two sets of seven numbers, in the middle and at both limits.
func TestSetAlgebra(t *testing.T) {
	const width = 7
	for _, lo := range []int{impl.MinNum, -3, impl.MaxNum - width + 1} {
		for x := range uint(1 << width) {
			for y := range uint(1 << width) {
				a, b := fromBits(x, lo), fromBits(y, lo)
				got, ok := impl.SetUnion(a, b)
				wantSpans(t, "SetUnion", got, ok, fromBits(x|y, lo), true)
				got, ok = impl.SetMinus(a, b)
				wantSpans(t, "SetMinus", got, ok, fromBits(x&^y, lo), true)
				wantSpans(t, "SetMeet", impl.SetMeet(a, b), true, fromBits(x&y, lo), true)
				if impl.SetWithin(a, b) != (x&^y == 0) || impl.SetSame(a, b) != (x == y) {
					t.Errorf("%v and %v: SetWithin or SetSame is wrong", a, b)
				}
				if t.Failed() {
					t.Fatalf("for %v and %v", a, b)
				}
			}
		}
	}
}

func TestSetExamples(t *testing.T) {
	u, ok := impl.SetUnion(row(1, 3), row(4, 6))
	wantSpans(t, "SetUnion", u, ok, row(1, 6), true)
	m, ok := impl.SetMinus(row(1, 6), row(3, 4))
	wantSpans(t, "SetMinus", m, ok, row(1, 2, 5, 6), true)
}

// TestSetResultLimits has results of just MaxSpans spans, and of one more.
func TestSetResultLimits(t *testing.T) {
	full := row(impl.MinNum, impl.MaxNum)
	got, ok := impl.SetUnion(singles(6, 0), singles(6, 12))
	wantSpans(t, "union of 12 spans", got, ok, singles(12, 0), true)
	got, ok = impl.SetUnion(singles(6, 0), singles(7, 12))
	wantSpans(t, "union of 13 spans", got, ok, nil, false)
	got, ok = impl.SetUnion(singles(12, 0), row(99, 99))
	wantSpans(t, "union of 13 spans", got, ok, nil, false)
	got, ok = impl.SetUnion(singles(12, 0), singles(12, 1))
	wantSpans(t, "union of 24 spans that touch", got, ok, row(0, 23), true)

	got, ok = impl.SetMinus(full, singles(11, 0))
	wantSpans(t, "difference of 12 spans", got, ok, append(append(row(-99, -1), singles(10, 1)...), row(21, 99)...), true)
	got, ok = impl.SetMinus(full, singles(12, 0))
	wantSpans(t, "difference of 13 spans", got, ok, nil, false)
	got, ok = impl.SetMinus(full, singles(12, impl.MinNum))
	wantSpans(t, "difference of 12 spans at the least number", got, ok, append(singles(11, -98), row(-76, 99)...), true)
	got, ok = impl.SetMinus(full, singles(12, 77))
	wantSpans(t, "difference of 12 spans at the greatest number", got, ok, append(row(-99, 76), singles(11, 78)...), true)
	got, ok = impl.SetMinus(full, full)
	wantSpans(t, "difference of all numbers", got, ok, nil, true)
	got, ok = impl.SetMinus(full, nil)
	wantSpans(t, "difference with nothing", got, ok, full, true)
}

// TestSetMeetHasNoLimit has the greatest number of spans of a meet: 23.
func TestSetMeetHasNoLimit(t *testing.T) {
	var a, b, want []impl.Span
	for i := range impl.MaxSpans {
		lo := 8 * i
		a = append(a, impl.Span{Lo: lo, Hi: lo + 6})
		b = append(b, impl.Span{Lo: lo + 4, Hi: lo + 10})
		if i > 0 {
			want = append(want, impl.Span{Lo: lo, Hi: lo + 2})
		}
		want = append(want, impl.Span{Lo: lo + 4, Hi: lo + 6})
	}
	if len(want) != 23 {
		t.Fatalf("the test has %d spans", len(want))
	}
	wantSpans(t, "SetMeet", impl.SetMeet(a, b), true, want, true)
	wantSpans(t, "SetMeet, turned", impl.SetMeet(b, a), true, want, true)
}

func TestSetSame(t *testing.T) {
	if !impl.SetSame(nil, row()) || !impl.SetSame(row(2, 1, 1, 1), row(2, 1, 1, 1)) {
		t.Error("SetSame tells equal lists apart")
	}
	long := singles(200, -99)
	if !impl.SetSame(long, slices.Clone(long)) || impl.SetSame(long, long[:199]) {
		t.Error("SetSame is wrong for long lists")
	}
	others := [][]impl.Span{nil, row(1, 2), row(1, 3), row(0, 2), row(1, 2, 4, 4), row(4, 4, 1, 2), row(2, 1), row(1, 0)}
	for i, a := range others {
		for j, b := range others {
			if impl.SetSame(a, b) != (i == j) {
				t.Errorf("SetSame(%v, %v) = %v", a, b, i != j)
			}
		}
	}
}

func TestSetSizeAndFirst(t *testing.T) {
	cases := []struct {
		s     []impl.Span
		size  int
		first int
		ok    bool
	}{
		{nil, 0, 0, false},
		{row(), 0, 0, false},
		{row(0, 0), 1, 0, true},
		{row(impl.MinNum, impl.MaxNum), 199, -99, true},
		{row(impl.MinNum, -98, impl.MaxNum, impl.MaxNum), 3, -99, true},
		{row(impl.MaxNum, impl.MaxNum), 1, 99, true},
		{row(-5, -3, 2, 3), 5, -5, true},
		{singles(12, 4), 12, 4, true},
	}
	for _, c := range cases {
		if n := impl.SetSize(c.s); n != c.size {
			t.Errorf("SetSize(%v) = %d, want %d", c.s, n, c.size)
		}
		if n, ok := impl.SetFirst(c.s); n != c.first || ok != c.ok {
			t.Errorf("SetFirst(%v) = %d, %v, want %d, %v", c.s, n, ok, c.first, c.ok)
		}
	}
}

// TestSetsRefuse gives each function lists that are no sets, on either side.
func TestSetsRefuse(t *testing.T) {
	for name, bad := range badSets() {
		for _, good := range [][]impl.Span{nil, row(1, 2), row(impl.MinNum, impl.MaxNum)} {
			for _, p := range [][2][]impl.Span{{bad, good}, {good, bad}, {bad, bad}} {
				got, ok := impl.SetUnion(p[0], p[1])
				wantSpans(t, name+": SetUnion", got, ok, nil, false)
				got, ok = impl.SetMinus(p[0], p[1])
				wantSpans(t, name+": SetMinus", got, ok, nil, false)
				wantSpans(t, name+": SetMeet", impl.SetMeet(p[0], p[1]), false, nil, false)
				if impl.SetWithin(p[0], p[1]) {
					t.Errorf("%s: SetWithin holds", name)
				}
			}
		}
		n, ok := impl.SetFirst(bad)
		if n != 0 || ok || impl.SetSize(bad) != 0 {
			t.Errorf("%s: SetFirst = %d, %v, SetSize = %d", name, n, ok, impl.SetSize(bad))
		}
		for _, x := range bad {
			if impl.SetHas(bad, x.Lo) || impl.SetHas(bad, x.Hi) {
				t.Errorf("%s: SetHas holds", name)
			}
		}
	}
}

// TestSetsShareNoMemory writes over the results, and checks that arguments stay as they are, also behind their ends.
func TestSetsShareNoMemory(t *testing.T) {
	whole := row(1, 9, 11, 15, 50, 60, 70, 80)
	other := row(3, 4, 13, 99, 20, 30)
	a, b := slices.Clone(whole)[:2], slices.Clone(other)[:2]
	makers := map[string]func() []impl.Span{
		"SetOf":                   func() []impl.Span { s, _ := impl.SetOf(a); return s },
		"SetUnion":                func() []impl.Span { s, _ := impl.SetUnion(a, b); return s },
		"SetMinus":                func() []impl.Span { s, _ := impl.SetMinus(a, b); return s },
		"SetMeet":                 func() []impl.Span { return impl.SetMeet(a, b) },
		"union with nothing":      func() []impl.Span { s, _ := impl.SetUnion(a, nil); return s },
		"difference with nothing": func() []impl.Span { s, _ := impl.SetMinus(a, nil); return s },
		"meet with itself":        func() []impl.Span { return impl.SetMeet(a, a) },
	}
	for name, build := range makers {
		first := build()
		want := slices.Clone(first)
		second := build()
		for i := range first[:cap(first)] {
			first[:cap(first)][i] = impl.Span{Lo: 77, Hi: 77}
		}
		if len(want) == 0 || !slices.Equal(second, want) {
			t.Errorf("%s shares memory with another result, or has none", name)
		}
		if !slices.Equal(a[:4], whole) || !slices.Equal(b[:3], other) {
			t.Fatalf("%s changes its arguments, or shares their memory", name)
		}
	}
}

// TestSetOfKeepsList checks that a list in no order stays as it is.
func TestSetOfKeepsList(t *testing.T) {
	list := row(8, 9, 5, 4, 1, 3, 4, 6)
	kept := slices.Clone(list)
	impl.SetOf(list[:3])
	impl.SetOf(list)
	if !slices.Equal(list, kept) {
		t.Errorf("SetOf changes its list to %v", list)
	}
}
