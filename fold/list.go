package fold

import (
	"slices"

	"tidewright/api"
	"tidewright/row"
)

// list is aggregates of rows with so many columns.
type list struct {
	aggs    []api.Agg
	columns int
}

// ValidAgg reports whether a is an aggregate of rows with n columns. What n itself may be is not asked here.
func ValidAgg(a api.Agg, n int) bool {
	switch a.Kind {
	case api.ACount:
		return a.Column == 0
	case api.AValues, api.ASum, api.ALeast, api.AGreatest, api.AMean, api.ADistinct:
		return 0 <= a.Column && a.Column < n
	}
	return false
}

// Valid reports whether l is a list of aggregates of rows with n columns.
func Valid(l []api.Agg, n int) bool {
	if len(l) == 0 || len(l) > api.MaxColumns {
		return false
	}
	return !slices.ContainsFunc(l, func(a api.Agg) bool { return !ValidAgg(a, n) })
}

// Kinds returns the kinds of what aggregates tell of a schema's columns.
func Kinds(s api.Schema, l []api.Agg) ([]int, api.Errno) {
	if !row.ValidSchema(s) || !Valid(l, len(s)) {
		return nil, api.ErrInvalid
	}
	kinds := make([]int, len(l))
	for i, a := range l {
		kind, ok := toldKind(a.Kind, s[a.Column].Kind)
		if !ok {
			return nil, api.ErrKind
		}
		kinds[i] = kind
	}
	return kinds, api.OK
}

// toldKind returns the kind of what an aggregate of a kind tells of a column of a kind; false if it tells nothing of such columns.
func toldKind(agg, column int) (int, bool) {
	switch agg {
	case api.ALeast, api.AGreatest:
		return column, true
	case api.ASum, api.AMean:
		return api.VInt, column == api.VInt
	}
	return api.VInt, true
}

// fits reports whether r is a row of the list's columns.
func (l list) fits(r api.Row) bool {
	return row.Valid(r) && len(r) == l.columns
}

// same reports whether two lists have the same aggregates, in the same order, of as many columns.
func (l list) same(other list) bool {
	return l.columns == other.columns && slices.Equal(l.aggs, other.aggs)
}
