package calc

import (
	"slices"

	"tidewright/api"
	"tidewright/row"
)

// table is a schema and a row of it, and the prefix that names of its columns have; empty if they have none.
type table struct {
	prefix string
	schema api.Schema
	row    api.Row
}

// result is what an expression, or a column, tells.
type result struct {
	kind  int
	value api.Value
}

// finder finds what a column tells, if there is such.
type finder func(c column) (result, bool)

// evaluate reads an expression and evaluates it over a table and those that are bound.
func evaluate(text string, t table, bound []api.Schema, names []string, rows []api.Row) (result, api.Errno) {
	n, e := read(text)
	if e != api.OK {
		return result{}, e
	}
	if !row.Fits(t.schema, t.row) {
		return result{}, api.ErrInvalid
	}
	if e := checkBound(bound, names, rows); e != api.OK {
		return result{}, e
	}
	tables := []table{t}
	for i, name := range names {
		tables = append(tables, table{prefix: name, schema: bound[i], row: rows[i]})
	}
	return evaluated(n, tables)
}

// checkBound returns what is wrong with what is bound.
func checkBound(bound []api.Schema, names []string, rows []api.Row) api.Errno {
	if !every(bound, row.ValidSchema) || !every(names, row.Name) {
		return api.ErrInvalid
	}
	for i, r := range rows {
		// A row without a schema may still be no row at all.
		if !row.Valid(r) || i < len(bound) && !row.Fits(bound[i], r) {
			return api.ErrInvalid
		}
	}
	if len(bound) != len(names) || len(names) != len(rows) {
		return api.ErrSize
	}
	seen := make(map[string]bool, len(names))
	for _, name := range names {
		if seen[name] {
			return api.ErrDuplicate
		}
		seen[name] = true
	}
	return api.OK
}

// evaluated tells the kind and the value of an expression over tables.
func evaluated(n node, tables []table) (result, api.Errno) {
	find := finderIn(tables)
	for c := range columns(n) {
		if _, ok := find(c); !ok {
			return result{}, api.ErrName
		}
	}
	kind, fit := kindOf(n, find)
	if !fit {
		return result{}, api.ErrKind
	}
	return result{kind: kind, value: valueOf(n, find)}, api.OK
}

// finderIn returns what finds the columns of tables.
func finderIn(tables []table) finder {
	return func(c column) (result, bool) {
		at := slices.IndexFunc(tables, func(t table) bool { return t.prefix == c.prefix })
		if at < 0 {
			return result{}, false
		}
		t := tables[at]
		i := slices.IndexFunc(t.schema, func(x api.Column) bool { return x.Name == c.name })
		if i < 0 {
			return result{}, false
		}
		return result{kind: t.schema[i].Kind, value: t.row[i]}, true
	}
}

// kindOf returns the kind of an expression all of whose columns there are, and whether the kinds in it fit.
func kindOf(n node, find finder) (int, bool) {
	switch n := n.(type) {
	case literal:
		return n.value.Kind, true
	case column:
		found, ok := find(n)
		return found.kind, ok
	case operation:
		kinds := make([]int, len(n.operands))
		for i, operand := range n.operands {
			kind, fit := kindOf(operand, find)
			if !fit {
				return api.VNull, false
			}
			kinds[i] = kind
		}
		return n.kind(kinds)
	}
	return api.VNull, false
}

// valueOf returns the value of an expression in which all kinds fit.
func valueOf(n node, find finder) api.Value {
	switch n := n.(type) {
	case literal:
		return n.value
	case column:
		found, _ := find(n)
		return found.value
	case operation:
		values := make([]api.Value, len(n.operands))
		for i, operand := range n.operands {
			values[i] = valueOf(operand, find)
		}
		return n.apply(values)
	}
	return null()
}

// nulls returns a row that fits each valid schema of as many columns.
func nulls(s api.Schema) api.Row {
	return make(api.Row, len(s))
}
