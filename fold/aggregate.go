package fold

import (
	"tidewright/api"
	"tidewright/row"
)

// aggregate takes the values of rows in, and tells what they come to.
type aggregate interface {
	take(v api.Value, n int) // a value that comes n times, more than 0
	tell() api.Value
}

// told puts together what each of l tells of the rows of a whole bag.
func told(b api.Bag, l ...api.Agg) api.Row {
	r := make(api.Row, len(l))
	for i, a := range l {
		agg := begun(a.Kind)
		for _, item := range b {
			agg.take(valueOf(item.Row, a), item.N)
		}
		r[i] = agg.tell()
	}
	return r
}

// begun returns an aggregate of one of the kinds, which has taken nothing in.
func begun(kind int) aggregate {
	switch kind {
	case api.AValues:
		return new(values)
	case api.ASum:
		return new(sum)
	case api.ALeast:
		return &extreme{sign: -1}
	case api.AGreatest:
		return &extreme{sign: 1}
	case api.AMean:
		return new(mean)
	case api.ADistinct:
		return distinct{}
	}
	return new(count)
}

// valueOf returns the value of a row that an aggregate takes in: null where it has no column.
func valueOf(r api.Row, a api.Agg) api.Value {
	if a.Kind == api.ACount {
		return api.Value{}
	}
	return r[a.Column]
}

// count is how many rows there are.
type count struct{ n int }

func (c *count) take(_ api.Value, n int) { c.n += n }

func (c *count) tell() api.Value { return number(c.n) }

// values is how many rows have a value that is not null.
type values struct{ count }

func (c *values) take(v api.Value, n int) {
	if !isNull(v) {
		c.count.take(v, n)
	}
}

// distinct is the different values that are not null.
type distinct map[api.Value]bool

func (d distinct) take(v api.Value, _ int) {
	if !isNull(v) {
		d[v] = true
	}
}

func (d distinct) tell() api.Value { return number(len(d)) }

// extreme is the least or the greatest value that is not null.
type extreme struct {
	found api.Value
	sign  int // how what is looked for compares with others: -1 the least, 1 the greatest
}

func (x *extreme) take(v api.Value, _ int) {
	if !isNull(v) && (isNull(x.found) || row.CompareValues(v, x.found) == x.sign) {
		x.found = v
	}
}

func (x *extreme) tell() api.Value { return x.found }

// base is what numbers are split by to be added up.
const base = 1_000_000_000

// sum is that of the whole numbers, high * base + low. It is split as MaxInt, MaxCount times in MaxRows rows, is more than an int holds; what both parts come to then is not.
type sum struct {
	high, low int
	count     // of the whole numbers
}

func (s *sum) take(v api.Value, n int) {
	if v.Kind == api.VInt {
		s.high += v.N / base * n
		s.low += v.N % base * n
		s.count.take(v, n)
	}
}

// tell returns the sum; null if there is none, or if it is beyond MaxInt.
func (s *sum) tell() api.Value {
	high, low := s.high+s.low/base, s.low%base
	// The low part is less than base either way, so this is beyond MaxInt whatever it is; and it is asked before the product, which an int may not hold.
	if s.n == 0 || max(high, -high) > 2*api.MaxInt/base {
		return api.Value{}
	}
	return number(high*base + low)
}

// mean is the sum of the whole numbers, divided by how many they are.
type mean struct{ sum }

func (m *mean) tell() api.Value {
	total := m.sum.tell()
	if isNull(total) {
		return total
	}
	return number(down(total.N, m.n))
}

// down divides by b, which is above 0, and rounds down, where Go rounds toward 0.
func down(a, b int) int {
	q := a / b
	if a%b < 0 {
		q--
	}
	return q
}

func isNull(v api.Value) bool { return v.Kind == api.VNull }

// number returns a whole number; null if a row can't hold it.
func number(n int) api.Value {
	v := api.Value{Kind: api.VInt, N: n}
	if !row.ValidValue(v) {
		return api.Value{}
	}
	return v
}
