package calc

import (
	"strconv"
	"strings"

	"tidewright/api"
	"tidewright/row"
)

// null is what is told where nothing else can be.
func null() api.Value { return api.Value{} }

// number returns a whole number; null if it is out of the range of a row's.
func number(n int) api.Value {
	if n < -api.MaxInt || n > api.MaxInt {
		return null()
	}
	return api.Value{Kind: api.VInt, N: n}
}

func truth(is bool) api.Value {
	if is {
		return number(1)
	}
	return number(0)
}

func isNull(v api.Value) bool { return v.Kind == api.VNull }

func isTrue(v api.Value) bool { return v.Kind == api.VInt && v.N != 0 }

func isFalse(v api.Value) bool { return v.Kind == api.VInt && v.N == 0 }

func negative(values []api.Value) api.Value { return number(-values[0].N) }

func isZero(values []api.Value) api.Value { return truth(isFalse(values[0])) }

func sum(values []api.Value) api.Value { return number(values[0].N + values[1].N) }

func difference(values []api.Value) api.Value { return number(values[0].N - values[1].N) }

func product(values []api.Value) api.Value {
	a, b := values[0].N, values[1].N
	// Two numbers of rows may make more than an int holds.
	if a != 0 && max(b, -b) > api.MaxInt/max(a, -a) {
		return null()
	}
	return number(a * b)
}

// quotient is rounded down, where Go rounds toward 0.
func quotient(values []api.Value) api.Value {
	a, b := values[0].N, values[1].N
	if b == 0 {
		return null()
	}
	q := a / b
	if a%b != 0 && (a < 0) != (b < 0) {
		q--
	}
	return number(q)
}

// remainder has the sign of the divisor, where Go gives it that of the dividend.
func remainder(values []api.Value) api.Value {
	a, b := values[0].N, values[1].N
	if b == 0 {
		return null()
	}
	r := a % b
	if r != 0 && (r < 0) != (b < 0) {
		r += b
	}
	return number(r)
}

func joined(values []api.Value) api.Value {
	s := values[0].S + values[1].S
	if len(s) > api.MaxString {
		return null()
	}
	return api.Value{Kind: api.VText, S: s}
}

// order returns -1, 0 or 1 as the first value is below, equal to or above the second one.
func order(values []api.Value) int { return row.CompareValues(values[0], values[1]) }

func equal(values []api.Value) api.Value { return truth(order(values) == 0) }

func unequal(values []api.Value) api.Value { return truth(order(values) != 0) }

func below(values []api.Value) api.Value { return truth(order(values) < 0) }

func atMost(values []api.Value) api.Value { return truth(order(values) <= 0) }

func above(values []api.Value) api.Value { return truth(order(values) > 0) }

func atLeast(values []api.Value) api.Value { return truth(order(values) >= 0) }

func both(values []api.Value) api.Value {
	a, b := values[0], values[1]
	switch {
	case isFalse(a), isFalse(b):
		return truth(false)
	case isNull(a), isNull(b):
		return null()
	}
	return truth(true)
}

func either(values []api.Value) api.Value {
	a, b := values[0], values[1]
	switch {
	case isTrue(a), isTrue(b):
		return truth(true)
	case isNull(a), isNull(b):
		return null()
	}
	return truth(false)
}

func chosen(values []api.Value) api.Value {
	if isTrue(values[0]) {
		return values[1]
	}
	return values[2]
}

func isMissing(values []api.Value) api.Value { return truth(isNull(values[0])) }

func length(values []api.Value) api.Value { return number(len(values[0].S)) }

func least(values []api.Value) api.Value {
	a, b := values[0], values[1]
	// Null is below all others, but is not told if one of both is another.
	if isNull(a) || !isNull(b) && order(values) > 0 {
		return b
	}
	return a
}

func greatest(values []api.Value) api.Value {
	if order(values) < 0 {
		return values[1]
	}
	return values[0]
}

func asNumber(values []api.Value) api.Value {
	v := values[0]
	if v.Kind == api.VInt {
		return v
	}
	digits := strings.TrimPrefix(v.S, "-")
	n, err := strconv.Atoi(v.S)
	if err != nil || run(digits, isDigit) != len(digits) { // Atoi takes a + as well
		return null()
	}
	return number(n)
}

func asText(values []api.Value) api.Value {
	v := values[0]
	if v.Kind == api.VText {
		return v
	}
	return api.Value{Kind: api.VText, S: strconv.Itoa(v.N)}
}
