package row

import (
	"strings"

	"tidewright/api"
)

// The words for the kinds of columns.
const (
	intWord  = "int"
	textWord = "text"
)

// between separates the columns in a schema's text.
const between = ", "

// Name reports whether s is a name.
func Name(s string) bool {
	if len(s) == 0 || len(s) > api.MaxName || !small(s[0]) {
		return false
	}
	for i := range len(s) {
		if c := s[i]; !small(c) && c != '_' && (c < '0' || c > '9') {
			return false
		}
	}
	return true
}

// ValidSchema reports whether s is a schema.
func ValidSchema(s api.Schema) bool {
	if len(s) == 0 || len(s) > api.MaxColumns {
		return false
	}
	for _, c := range s {
		if !Name(c.Name) || word(c.Kind) == "" {
			return false
		}
	}
	return len(numbers(s)) == len(s)
}

// Fits reports whether r is a row of the schema s; false if either is not valid.
func Fits(s api.Schema, r api.Row) bool {
	if !ValidSchema(s) || !Valid(r) || len(r) != len(s) {
		return false
	}
	for i, v := range r {
		if v.Kind != api.VNull && v.Kind != s[i].Kind {
			return false
		}
	}
	return true
}

// Format writes a schema; the empty string if it is not valid.
func Format(s api.Schema) string {
	if !ValidSchema(s) {
		return ""
	}
	columns := make([]string, len(s))
	for i, c := range s {
		columns[i] = c.Name + " " + word(c.Kind)
	}
	return strings.Join(columns, between)
}

// ParseSchema reads a text that Format writes.
func ParseSchema(text string) (api.Schema, api.Errno) {
	if len(text) > api.MaxText {
		return nil, api.ErrLong
	}
	var s api.Schema
	for column := range strings.SplitSeq(text, between) {
		name, kind, _ := strings.Cut(column, " ")
		s = append(s, api.Column{Name: name, Kind: meant(kind)})
	}
	// No name has a blank or a comma, so the text of a valid schema is cut just where Format joined it.
	if !ValidSchema(s) {
		return nil, api.ErrSyntax
	}
	return s, api.OK
}

// word returns the word for a kind of columns; the empty one if it is none.
func word(kind int) string {
	switch kind {
	case api.VInt:
		return intWord
	case api.VText:
		return textWord
	}
	return ""
}

// meant returns the kind of columns that a word means; VNull, which is none, if it means none.
func meant(word string) int {
	switch word {
	case intWord:
		return api.VInt
	case textWord:
		return api.VText
	}
	return api.VNull
}

func small(c byte) bool {
	return 'a' <= c && c <= 'z'
}
