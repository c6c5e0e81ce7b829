package calc

import (
	"math/big"
	"math/rand"
	"slices"
	"strings"

	"tidewright/api"
)

// part is a drawn expression. What it says is told here once more, as the chapter says it and without the package's own reading.
type part struct {
	name  string // of an operator or a call; of an operand its text
	parts []*part
}

// How strongly what stands before, between and around operands binds, as the chapter lists it.
const (
	ofOr = iota
	ofAnd
	ofComparison
	ofSum
	ofProduct
	ofPrefix
	ofOperand
)

// strength returns how strongly a part is bound together.
func (p *part) strength() int {
	switch {
	case len(p.parts) == 1 && (p.name == "-" || p.name == "not"):
		return ofPrefix
	case len(p.parts) != 2 || isCall(p.name):
		return ofOperand
	}
	for strength, names := range []string{" or ", " and ", " = != < <= > >= ", " + - & ", " * / % "} {
		if strings.Contains(names, " "+p.name+" ") {
			return strength
		}
	}
	panic("no operator: " + p.name)
}

func isCall(name string) bool {
	return strings.Contains(" if null len least greatest num text ", " "+name+" ")
}

// show is what Show is to make of the part.
func (p *part) show() string {
	var parts []string
	for _, x := range p.parts {
		parts = append(parts, x.show())
	}
	switch {
	case len(parts) == 0:
		return p.name
	case p.strength() == ofPrefix:
		return "(" + p.name + " " + parts[0] + ")"
	case p.strength() == ofOperand:
		return p.name + "(" + strings.Join(parts, ", ") + ")"
	}
	return "(" + parts[0] + " " + p.name + " " + parts[1] + ")"
}

func (p *part) levels() int {
	deepest := 0
	for _, x := range p.parts {
		deepest = max(deepest, x.levels())
	}
	return deepest + 1
}

// names returns what names there are, in whatever order.
func (p *part) names() []string {
	if c := p.name[0]; len(p.parts) == 0 && 'a' <= c && c <= 'z' && p.name != "null" {
		return []string{p.name}
	}
	var names []string
	for _, x := range p.parts {
		names = append(names, x.names()...)
	}
	return names
}

// tokens writes a part with the parentheses that it needs, and at times with more.
func (p *part) tokens(draw *rand.Rand) []string {
	if draw.Intn(8) == 0 {
		return slices.Concat([]string{"("}, p.tokens(draw), []string{")"})
	}
	within := func(x *part, needs bool) []string {
		if needs {
			return slices.Concat([]string{"("}, x.tokens(draw), []string{")"})
		}
		return x.tokens(draw)
	}
	strength := p.strength()
	switch {
	case len(p.parts) == 0:
		return []string{p.name}
	case strength == ofPrefix:
		return append([]string{p.name}, within(p.parts[0], p.parts[0].strength() < ofPrefix)...)
	case strength == ofOperand:
		tokens, before := []string{p.name}, "("
		for _, x := range p.parts {
			tokens = append(append(tokens, before), x.tokens(draw)...)
			before = ","
		}
		return append(tokens, ")")
	}
	left, right := p.parts[0], p.parts[1]
	tokens := within(left, left.strength() < strength || strength == ofComparison && left.strength() == strength)
	return append(append(tokens, p.name), within(right, right.strength() <= strength)...)
}

// text writes a part with blanks here and there, and where two words would be one without.
func (p *part) text(draw *rand.Rand) string {
	blanks := func() string { return strings.Repeat(" ", max(0, draw.Intn(5)-2)) }
	text := blanks()
	for _, token := range p.tokens(draw) {
		if text != "" && isInName(text[len(text)-1]) && isInName(token[0]) {
			text += " "
		}
		text += token + blanks()
	}
	return text
}

// The kinds that a part may have in the model; misfit where kinds in it do not fit.
const misfit = -1

// kind returns the kind of a part whose columns have the kinds told.
func (p *part) kind(of func(name string) int) int {
	if len(p.parts) == 0 {
		switch c := p.name[0]; {
		case p.name == "null":
			return api.VNull
		case c == '"':
			return api.VText
		case '0' <= c && c <= '9':
			return api.VInt
		}
		return of(p.name)
	}
	var kinds []int
	for _, x := range p.parts {
		kinds = append(kinds, x.kind(of))
	}
	if slices.Contains(kinds, misfit) {
		return misfit
	}
	// alike returns the one kind of some, and misfit if they have two.
	alike := func(kinds ...int) int {
		kinds = slices.DeleteFunc(slices.Clone(kinds), func(k int) bool { return k == api.VNull })
		switch {
		case len(kinds) == 0:
			return api.VNull
		case slices.Min(kinds) != slices.Max(kinds):
			return misfit
		}
		return kinds[0]
	}
	need := func(ok bool, kind int) int {
		if !ok {
			return misfit
		}
		return kind
	}
	switch p.name {
	case "*", "/", "%", "+", "-", "and", "or", "not":
		return need(alike(append(kinds, api.VInt)...) == api.VInt, api.VInt)
	case "&":
		return need(alike(append(kinds, api.VText)...) == api.VText, api.VText)
	case "len":
		return need(kinds[0] != api.VInt, api.VInt)
	case "null", "num":
		return api.VInt
	case "text":
		return api.VText
	case "least", "greatest":
		return alike(kinds...)
	case "if":
		return need(kinds[0] != api.VText, alike(kinds[1], kinds[2]))
	}
	return need(alike(kinds...) != misfit, api.VInt)
}

// told is a value of the model: nil, a *big.Int or a string.
type told any

// value returns what a part tells whose columns have the values told.
func (p *part) value(of func(name string) told) told {
	if len(p.parts) == 0 {
		switch c := p.name[0]; {
		case p.name == "null":
			return nil
		case c == '"':
			return strings.NewReplacer(`\"`, `"`, `\\`, `\`, `\n`, "\n", `\xff`, "\xff").Replace(p.name[1 : len(p.name)-1])
		case '0' <= c && c <= '9':
			n, _ := new(big.Int).SetString(p.name, 10)
			return n
		}
		return of(p.name)
	}
	var l []told
	for _, x := range p.parts {
		l = append(l, x.value(of))
	}
	switch p.name {
	case "and":
		return leastTruth(l)
	case "or":
		return negated(leastTruth([]told{negated(l[0]), negated(l[1])}))
	case "if":
		if l[0] != nil && l[0].(*big.Int).Sign() != 0 {
			return l[1]
		}
		return l[2]
	case "null":
		return truthOf(l[0] == nil)
	case "least", "greatest":
		if l[0] == nil || l[1] != nil && (orderOf(l[1], l[0]) < 0) == (p.name == "least") {
			return l[1]
		}
		return l[0]
	}
	if slices.Contains(l, nil) {
		return nil
	}
	return p.strict(l)
}

// strict tells of operands none of which is null.
func (p *part) strict(l []told) told {
	switch p.name {
	case "not":
		return negated(l[0])
	case "len":
		return big.NewInt(int64(len(l[0].(string))))
	case "num":
		if s, ok := l[0].(string); ok {
			return numberOf(s)
		}
		return l[0]
	case "text":
		if n, ok := l[0].(*big.Int); ok {
			return n.String()
		}
		return l[0]
	case "&":
		if s := l[0].(string) + l[1].(string); len(s) <= 200 {
			return s
		}
		return nil
	case "=":
		return truthOf(orderOf(l[0], l[1]) == 0)
	case "!=":
		return truthOf(orderOf(l[0], l[1]) != 0)
	case "<":
		return truthOf(orderOf(l[0], l[1]) < 0)
	case "<=":
		return truthOf(orderOf(l[0], l[1]) <= 0)
	case ">":
		return truthOf(orderOf(l[0], l[1]) > 0)
	case ">=":
		return truthOf(orderOf(l[0], l[1]) >= 0)
	}
	return p.arithmetic(l)
}

func (p *part) arithmetic(l []told) told {
	n, a := new(big.Int), l[0].(*big.Int)
	if len(l) == 1 {
		return n.Neg(a)
	}
	b := l[1].(*big.Int)
	switch p.name {
	case "+":
		n.Add(a, b)
	case "-":
		n.Sub(a, b)
	case "*":
		n.Mul(a, b)
	default:
		if b.Sign() == 0 {
			return nil
		}
		// Rounded down is the quotient of what is taken from both below a divisor above 0.
		if b.Sign() < 0 {
			a, b = new(big.Int).Neg(a), new(big.Int).Neg(b)
		}
		rest := new(big.Int)
		n.DivMod(a, b, rest)
		if p.name == "%" {
			n = rest
			if l[1].(*big.Int).Sign() < 0 {
				n.Neg(rest)
			}
		}
	}
	return inRange(n)
}

func inRange(n *big.Int) told {
	if n.CmpAbs(big.NewInt(maxInt)) > 0 {
		return nil
	}
	return n
}

// numberOf returns the number that a text is in decimal.
func numberOf(s string) told {
	digits := strings.TrimPrefix(s, "-")
	if digits == "" || strings.Trim(digits, "0123456789") != "" {
		return nil
	}
	n, _ := new(big.Int).SetString(s, 10)
	return inRange(n)
}

func truthOf(is bool) told {
	if is {
		return big.NewInt(1)
	}
	return big.NewInt(0)
}

// leastTruth is and: false is least, then null, then true.
func leastTruth(l []told) told {
	for _, x := range l {
		if x != nil && x.(*big.Int).Sign() == 0 {
			return truthOf(false)
		}
	}
	if slices.Contains(l, nil) {
		return nil
	}
	return truthOf(true)
}

func negated(x told) told {
	if x == nil {
		return nil
	}
	return truthOf(x.(*big.Int).Sign() == 0)
}

// orderOf compares two values of one kind.
func orderOf(a, b told) int {
	if n, ok := a.(*big.Int); ok {
		return n.Cmp(b.(*big.Int))
	}
	return strings.Compare(a.(string), b.(string))
}

// modelled returns a value as the model has it, and valueOfTold it as the program has it.
func modelled(v api.Value) told {
	switch v.Kind {
	case api.VInt:
		return big.NewInt(int64(v.N))
	case api.VText:
		return v.S
	}
	return nil
}

func valueOfTold(x told) api.Value {
	switch x := x.(type) {
	case *big.Int:
		return num(int(x.Int64()))
	case string:
		return word(x)
	}
	return api.Value{}
}
