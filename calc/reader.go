package calc

import (
	"strings"

	"tidewright/api"
	"tidewright/row"
)

// reader reads an expression token by token. Where a text is none, its methods stop by a panic, which read recovers.
type reader struct {
	rest  string // what is still to be read, from the present token on
	token string // the present token; empty at the end of the text

	prefixes, infixes, calls map[string]operator
}

// read reads the whole of a text.
func read(text string) (n node, e api.Errno) {
	if len(text) > api.MaxText {
		return nil, api.ErrLong
	}
	defer func() {
		if recover() != nil {
			n, e = nil, api.ErrSyntax
		}
	}()
	in := &reader{rest: text, prefixes: prefixes(), infixes: infixes(), calls: calls()}
	in.next()
	n = in.expression(bindsLeast)
	in.take("")
	// Only now: a text that is no expression is that first, however deep.
	if n.levels() > api.MaxDeep {
		return nil, api.ErrLimit
	}
	return n, api.OK
}

// expression reads operands with operators between them that bind at least as strongly as told.
func (in *reader) expression(weakest int) node {
	left := in.operand()
	comparison := false
	for {
		name := in.token
		op, ok := in.infixes[name]
		if !ok || op.binds < weakest {
			return left
		}
		if op.binds == bindsComparison {
			if comparison {
				stop()
			}
			comparison = true
		}
		in.next()
		right := in.expression(op.binds + 1)
		left = operate(name, infixText, op, left, right)
	}
}

// operand reads an operand with the operators before it.
func (in *reader) operand() node {
	token := in.token
	in.next()
	if op, ok := in.prefixes[token]; ok {
		return operate(token, prefixText, op, in.operand())
	}
	if op, ok := in.calls[token]; ok && in.token == "(" {
		return operate(token, callText, op, in.arguments(op.count)...)
	}
	switch {
	case token == "(":
		inner := in.expression(bindsLeast)
		in.take(")")
		return inner
	case token == "null":
		return literal{text: token}
	case token != "" && isSmall(token[0]):
		return columnOf(token)
	}
	return literalOf(token)
}

// arguments reads so many arguments of a call, with their parentheses.
func (in *reader) arguments(count int) []node {
	arguments := make([]node, count)
	before := "("
	for i := range arguments {
		in.take(before)
		arguments[i] = in.expression(bindsLeast)
		before = ","
	}
	in.take(")")
	return arguments
}

// take reads the present token, which must be the one told.
func (in *reader) take(token string) {
	if in.token != token {
		stop()
	}
	in.next()
}

// next goes to the token behind the present one.
func (in *reader) next() {
	in.rest = strings.TrimLeft(in.rest[len(in.token):], " ")
	in.token = in.rest[:width(in.rest)]
}

// columnOf returns the column that a word names.
func columnOf(word string) column {
	c := column{name: word}
	if prefix, name, ok := strings.Cut(word, "."); ok {
		c = column{prefix: prefix, name: name}
		if !isName(prefix) {
			stop()
		}
	}
	if !isName(c.name) {
		stop()
	}
	return c
}

// literalOf returns what a token of a number or of a text says; these are as in the text of a row.
func literalOf(token string) literal {
	if token == "" || token[0] != '"' && !isDigit(token[0]) {
		stop()
	}
	r, e := row.Parse(token)
	if e != api.OK {
		stop()
	}
	return literal{text: token, value: r[0]}
}

// stop ends the reading of a text that is no expression.
func stop() {
	panic(api.ErrSyntax)
}

// width returns how many bytes the token has with which a text begins. It may be a token of no expression: no one will take it then.
func width(text string) int {
	if text == "" {
		return 0
	}
	switch c := text[0]; {
	case c == '"':
		return quotedWidth(text)
	case isDigit(c):
		return run(text, isDigit)
	case isSmall(c):
		return wordWidth(text)
	case len(text) > 1 && text[1] == '=' && (c == '!' || c == '<' || c == '>'):
		return 2
	}
	return 1
}

// wordWidth returns the width of a word with which a text begins, and of a name behind it if it is a prefix.
func wordWidth(text string) int {
	w := run(text, isInName)
	if w < len(text) && text[w] == '.' {
		w++
		w += run(text[w:], isInName)
	}
	return w
}

// quotedWidth returns the width of a text between quotes; of all that there is if the second one is missing.
func quotedWidth(text string) int {
	for i := 1; i < len(text); i++ {
		switch text[i] {
		case '"':
			return i + 1
		case '\\':
			i++ // a quote behind it is no end
		}
	}
	return len(text)
}

// run returns how many bytes at the beginning of a text are as told.
func run(text string, is func(c byte) bool) int {
	n := 0
	for n < len(text) && is(text[n]) {
		n++
	}
	return n
}

func isSmall(c byte) bool { return 'a' <= c && c <= 'z' }

func isDigit(c byte) bool { return '0' <= c && c <= '9' }

func isInName(c byte) bool { return isSmall(c) || isDigit(c) || c == '_' }

// isName reports whether a name of a row's column, or of a bound row, can stand in an expression.
func isName(s string) bool {
	switch s {
	case "not", "and", "or", "null", "if", "len", "least", "greatest", "num", "text":
		return false
	}
	return row.Name(s)
}
