package row

import (
	"slices"

	"tidewright/api"
)

// Project returns the values of some columns of a row, in the order told, also several times.
func Project(r api.Row, cols []int) (api.Row, api.Errno) {
	if !Valid(r) {
		return nil, api.ErrInvalid
	}
	if !areColumns(cols, len(r)) {
		return nil, api.ErrRange
	}
	if len(cols) > api.MaxColumns {
		return nil, api.ErrLimit
	}
	return at(r, cols), api.OK
}

// Concat returns the values of a, then those of b.
func Concat(a, b api.Row) (api.Row, api.Errno) {
	if !Valid(a) || !Valid(b) {
		return nil, api.ErrInvalid
	}
	if len(a)+len(b) > api.MaxColumns {
		return nil, api.ErrLimit
	}
	return slices.Concat(a, b), api.OK
}

// Find returns the number of a schema's column.
func Find(s api.Schema, name string) (int, api.Errno) {
	if !ValidSchema(s) {
		return 0, api.ErrInvalid
	}
	n, ok := numbers(s)[name]
	if !ok {
		return 0, api.ErrName
	}
	return n, api.OK
}

// Picked returns the schema of some columns of s, each once, in the order told.
func Picked(s api.Schema, cols []int) (api.Schema, api.Errno) {
	if !ValidSchema(s) {
		return nil, api.ErrInvalid
	}
	if !areColumns(cols, len(s)) {
		return nil, api.ErrRange
	}
	if len(cols) == 0 || len(cols) > api.MaxColumns {
		return nil, api.ErrSize
	}
	picked := at(s, cols)
	if len(numbers(picked)) < len(picked) {
		return nil, api.ErrDuplicate
	}
	return picked, api.OK
}

// Joined returns the columns of a, then those of b with a prefix and an underscore before their names.
func Joined(a, b api.Schema, prefix string) (api.Schema, api.Errno) {
	if !ValidSchema(a) || !ValidSchema(b) || !Name(prefix) {
		return nil, api.ErrInvalid
	}
	if len(a)+len(b) > api.MaxColumns {
		return nil, api.ErrLimit
	}
	joined := slices.Concat(a, b)
	for i := len(a); i < len(joined); i++ {
		joined[i].Name = prefix + "_" + joined[i].Name
		if len(joined[i].Name) > api.MaxName {
			return nil, api.ErrLimit
		}
	}
	if len(numbers(joined)) < len(joined) {
		return nil, api.ErrDuplicate
	}
	return joined, api.OK
}

// areColumns reports whether each of cols is one of so many columns.
func areColumns(cols []int, count int) bool {
	for _, c := range cols {
		if c < 0 || c >= count {
			return false
		}
	}
	return true
}

// at returns what stands at the columns cols, each of which there is.
func at[S ~[]E, E any](all S, cols []int) S {
	found := make(S, len(cols))
	for i, c := range cols {
		found[i] = all[c]
	}
	return found
}

// numbers returns the columns' numbers by their names: fewer than there are columns if a name stands twice.
func numbers(s api.Schema) map[string]int {
	found := make(map[string]int, len(s))
	for i, c := range s {
		found[c.Name] = i
	}
	return found
}
