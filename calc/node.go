package calc

import (
	"iter"
	"strings"

	"tidewright/api"
)

// node is a part of an expression: a literal, a column or an operation.
type node interface {
	levels() int // how deep it is nested
}

// literal is a number, a text or null, as it is written and what it says.
type literal struct {
	text  string
	value api.Value
}

// column is a name; without a prefix that is empty.
type column struct{ prefix, name string }

// operation is an operator or a call, with what it is applied to.
type operation struct {
	operator
	name     string
	form     func(name string, operands []string) string // how it is written
	operands []node
	deep     int
}

func (literal) levels() int { return 1 }

func (column) levels() int { return 1 }

func (o operation) levels() int { return o.deep }

// text returns a name as it stands in an expression.
func (c column) text() string {
	if c.prefix == "" {
		return c.name
	}
	return c.prefix + "." + c.name
}

// operate applies an operator to operands.
func operate(name string, form func(name string, operands []string) string, op operator, operands ...node) node {
	deepest := 0
	for _, n := range operands {
		deepest = max(deepest, n.levels())
	}
	return operation{operator: op, name: name, form: form, operands: operands, deep: deepest + 1}
}

// columns gives the names of an expression in the order in which they stand, each as often as it does.
func columns(n node) iter.Seq[column] {
	return func(yield func(c column) bool) { visit(n, yield) }
}

// visit hands the columns on until it is told that no more are wanted, and reports whether there are.
func visit(n node, yield func(c column) bool) bool {
	switch n := n.(type) {
	case column:
		return yield(n)
	case operation:
		for _, operand := range n.operands {
			if !visit(operand, yield) {
				return false
			}
		}
	}
	return true
}

// written writes an expression in full, with its names as told.
func written(n node, name func(c column) string) string {
	switch n := n.(type) {
	case literal:
		return n.text
	case column:
		return name(n)
	case operation:
		operands := make([]string, len(n.operands))
		for i, operand := range n.operands {
			operands[i] = written(operand, name)
		}
		return n.form(n.name, operands)
	}
	return ""
}

func prefixText(name string, operands []string) string {
	return "(" + name + " " + operands[0] + ")"
}

func infixText(name string, operands []string) string {
	return "(" + operands[0] + " " + name + " " + operands[1] + ")"
}

func callText(name string, operands []string) string {
	return name + "(" + strings.Join(operands, ", ") + ")"
}
