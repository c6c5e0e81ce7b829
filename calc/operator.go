package calc

import (
	"slices"

	"tidewright/api"
)

// operator is what an operator or a call asks for and what it tells.
type operator struct {
	binds  int                                       // how strongly, if it stands between operands
	count  int                                       // of arguments, if it is a call
	kind   func(kinds []int) (kind int, fit bool)    // what comes of operands of these kinds
	tell   func(values []api.Value) (told api.Value) // what comes of operands with these values
	ofNull bool                                      // whether it is asked also where an operand is null; otherwise null is told then
}

// How strongly the operators between operands bind, ascending.
const (
	bindsLeast = iota
	bindsOr
	bindsAnd
	bindsComparison
	bindsSum
	bindsProduct
)

// prefixes returns the operators that stand before an operand.
func prefixes() map[string]operator {
	return map[string]operator{
		"-":   {kind: ofInts, tell: negative},
		"not": {kind: ofInts, tell: isZero},
	}
}

// infixes returns the operators that stand between two operands.
func infixes() map[string]operator {
	return map[string]operator{
		"*":   {binds: bindsProduct, kind: ofInts, tell: product},
		"/":   {binds: bindsProduct, kind: ofInts, tell: quotient},
		"%":   {binds: bindsProduct, kind: ofInts, tell: remainder},
		"+":   {binds: bindsSum, kind: ofInts, tell: sum},
		"-":   {binds: bindsSum, kind: ofInts, tell: difference},
		"&":   {binds: bindsSum, kind: ofTexts, tell: joined},
		"=":   {binds: bindsComparison, kind: ofAlike, tell: equal},
		"!=":  {binds: bindsComparison, kind: ofAlike, tell: unequal},
		"<":   {binds: bindsComparison, kind: ofAlike, tell: below},
		"<=":  {binds: bindsComparison, kind: ofAlike, tell: atMost},
		">":   {binds: bindsComparison, kind: ofAlike, tell: above},
		">=":  {binds: bindsComparison, kind: ofAlike, tell: atLeast},
		"and": {binds: bindsAnd, kind: ofInts, tell: both, ofNull: true},
		"or":  {binds: bindsOr, kind: ofInts, tell: either, ofNull: true},
	}
}

// calls returns what is written with its arguments in parentheses.
func calls() map[string]operator {
	return map[string]operator{
		"if":       {count: 3, kind: ofChoice, tell: chosen, ofNull: true},
		"null":     {count: 1, kind: ofAnyInt, tell: isMissing, ofNull: true},
		"len":      {count: 1, kind: ofTextInt, tell: length},
		"least":    {count: 2, kind: common, tell: least, ofNull: true},
		"greatest": {count: 2, kind: common, tell: greatest, ofNull: true},
		"num":      {count: 1, kind: ofAnyInt, tell: asNumber},
		"text":     {count: 1, kind: ofAnyText, tell: asText},
	}
}

// apply returns what an operator tells of operands.
func (o operator) apply(values []api.Value) api.Value {
	if !o.ofNull && slices.ContainsFunc(values, isNull) {
		return null()
	}
	return o.tell(values)
}

// common is the one kind that all operands must have; VNull fits each.
func common(kinds []int) (int, bool) {
	found := api.VNull
	for _, kind := range kinds {
		if found != api.VNull && kind != api.VNull && kind != found {
			return api.VNull, false
		}
		found = max(found, kind) // VNull is the least
	}
	return found, true
}

func ofInts(kinds []int) (int, bool) {
	return api.VInt, !slices.Contains(kinds, api.VText)
}

func ofTexts(kinds []int) (int, bool) {
	return api.VText, !slices.Contains(kinds, api.VInt)
}

func ofTextInt(kinds []int) (int, bool) {
	_, fit := ofTexts(kinds)
	return api.VInt, fit
}

func ofAnyInt(kinds []int) (int, bool) { return api.VInt, true }

func ofAnyText(kinds []int) (int, bool) { return api.VText, true }

func ofAlike(kinds []int) (int, bool) {
	_, fit := common(kinds)
	return api.VInt, fit
}

func ofChoice(kinds []int) (int, bool) {
	kind, fit := common(kinds[1:])
	return kind, fit && kinds[0] != api.VText
}
