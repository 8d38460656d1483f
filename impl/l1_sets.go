// Package impl analyzes decision tables.
package impl

import (
	"cmp"
	"iter"
	"slices"
)

// Span is a row of numbers from Lo to Hi.
type Span struct {
	Lo int
	Hi int
}

// Limits of numbers and sets.
const (
	MinNum   = -99
	MaxNum   = 99
	MaxSpans = 12
)

// maxSpanList is the greatest number of spans that SetOf accepts.
const maxSpanList = 100

// SetValid reports whether a list is a set.
func SetValid(s []Span) bool {
	if len(s) > MaxSpans {
		return false
	}
	for i, x := range s {
		if !x.inLimits() || x.empty() {
			return false
		}
		if i > 0 && x.Lo < s[i-1].Hi+2 {
			return false
		}
	}
	return true
}

// SetHas reports whether a set has a number.
func SetHas(s []Span, n int) bool {
	return SetValid(s) && spansHave(s, n)
}

// SetOf returns the set of the numbers of some spans.
func SetOf(list []Span) ([]Span, bool) {
	if len(list) > maxSpanList {
		return nil, false
	}
	for _, x := range list {
		if !x.inLimits() {
			return nil, false
		}
	}
	return asSet(joinSpans(list))
}

// SetUnion returns the numbers of one or both of two sets.
func SetUnion(a []Span, b []Span) ([]Span, bool) {
	if !SetValid(a) || !SetValid(b) {
		return nil, false
	}
	return asSet(joinSpans(a, b))
}

// SetMeet returns the numbers of both of two sets.
func SetMeet(a []Span, b []Span) []Span {
	if !SetValid(a) || !SetValid(b) {
		return nil
	}
	return meetSpans(a, b)
}

// SetMinus returns the numbers of a set that another one does not have.
func SetMinus(a []Span, b []Span) ([]Span, bool) {
	if !SetValid(a) || !SetValid(b) {
		return nil, false
	}
	return asSet(meetSpans(a, otherSpans(b)))
}

// SetWithin reports whether a set has no numbers but those of another one.
func SetWithin(a []Span, b []Span) bool {
	if !SetValid(a) || !SetValid(b) {
		return false
	}
	for n := range numbersOf(a) {
		if !spansHave(b, n) {
			return false
		}
	}
	return true
}

// SetSame reports whether two sets are equal.
func SetSame(a []Span, b []Span) bool {
	return slices.Equal(a, b)
}

// SetSize returns the number of numbers of a set.
func SetSize(s []Span) int {
	if !SetValid(s) {
		return 0
	}
	size := 0
	for _, x := range s {
		size += x.Hi - x.Lo + 1
	}
	return size
}

// SetFirst returns the least number of a set.
func SetFirst(s []Span) (int, bool) {
	if !SetValid(s) || len(s) == 0 {
		return 0, false
	}
	return s[0].Lo, true
}

// isNumber reports whether n is within the limits of numbers.
func isNumber(n int) bool {
	return MinNum <= n && n <= MaxNum
}

// inLimits reports whether both ends of a span are numbers.
func (x Span) inLimits() bool {
	return isNumber(x.Lo) && isNumber(x.Hi)
}

// empty reports whether a span has no numbers.
func (x Span) empty() bool {
	return x.Lo > x.Hi
}

// has reports whether a span has the number n.
func (x Span) has(n int) bool {
	return x.Lo <= n && n <= x.Hi
}

// asSet returns spans in normal form, unless they are too many for a set.
func asSet(s []Span) ([]Span, bool) {
	if len(s) > MaxSpans {
		return nil, false
	}
	return s, true
}

// numbersOf yields the numbers of spans, in the order of the spans.
func numbersOf(s []Span) iter.Seq[int] {
	return func(yield func(int) bool) {
		for _, x := range s {
			for n := x.Lo; n <= x.Hi; n++ {
				if !yield(n) {
					return
				}
			}
		}
	}
}

// spansHave reports whether n is in one of some spans.
func spansHave(s []Span, n int) bool {
	for _, x := range s {
		if x.has(n) {
			return true
		}
	}
	return false
}

// joinSpans returns the numbers of all lists in normal form: ascending spans
// that neither overlap nor touch. The ends of all spans must be numbers.
func joinSpans(lists ...[]Span) []Span {
	all := slices.DeleteFunc(slices.Concat(lists...), Span.empty)
	slices.SortFunc(all, func(x, y Span) int { return cmp.Compare(x.Lo, y.Lo) })
	var joined []Span
	for _, x := range all {
		last := len(joined) - 1
		if last >= 0 && x.Lo <= joined[last].Hi+1 {
			joined[last].Hi = max(joined[last].Hi, x.Hi)
		} else {
			joined = append(joined, x)
		}
	}
	return joined
}

// meetSpans returns the numbers that are in both of two lists of spans. It is
// in normal form if both are: a gap of either list separates its spans.
func meetSpans(a, b []Span) []Span {
	var met []Span
	for len(a) > 0 && len(b) > 0 {
		x := Span{Lo: max(a[0].Lo, b[0].Lo), Hi: min(a[0].Hi, b[0].Hi)}
		if !x.empty() {
			met = append(met, x)
		}
		if a[0].Hi < b[0].Hi {
			a = a[1:]
		} else {
			b = b[1:]
		}
	}
	return met
}

// otherSpans returns, in normal form, the numbers that a set does not have.
func otherSpans(s []Span) []Span {
	var others []Span
	next := MinNum
	for _, x := range s {
		if next < x.Lo {
			others = append(others, Span{Lo: next, Hi: x.Lo - 1})
		}
		next = x.Hi + 1
	}
	if next <= MaxNum {
		others = append(others, Span{Lo: next, Hi: MaxNum})
	}
	return others
}
