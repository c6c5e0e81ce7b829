package calc

import (
	"strings"
	"testing"

	"tidewright/api"
)

// grammar gives all expressions of few tokens, each with what Show makes of it, by their level and their number of tokens.
type grammar map[int]map[int]map[string]string

// infixTokens are operators of each level, from those that bind least on.
func infixTokens() [][]string {
	return [][]string{{"or"}, {"and"}, {"=", "<="}, {"-", "&"}, {"*"}}
}

// of returns the expressions of a level with so many tokens.
func (g grammar) of(level, count int) map[string]string {
	if found, ok := g[level][count]; ok {
		return found
	}
	found := map[string]string{}
	put := func(text, show string) { found[text] = show }
	if g[level] == nil {
		g[level] = map[int]map[string]string{}
	}
	switch {
	case count < 1:
	case level < len(infixTokens()):
		for text, show := range g.of(level+1, count) {
			put(text, show)
		}
		g.putInfix(level, count, put)
	case level == len(infixTokens()):
		for text, show := range g.of(level+1, count) {
			put(text, show)
		}
		for text, show := range g.of(level, count-1) {
			put("- "+text, "(- "+show+")")
			put("not "+text, "(not "+show+")")
		}
	default:
		g.putOperands(count, put)
	}
	g[level][count] = found
	return found
}

// putInfix puts what operators of a level make of what is left and right of them.
func (g grammar) putInfix(level, count int, put func(text, show string)) {
	leftLevel := level
	if infixTokens()[level][0] == "=" {
		leftLevel++ // comparisons do not group
	}
	for left := 1; left < count-1; left++ {
		for a, showA := range g.of(leftLevel, left) {
			for b, showB := range g.of(level+1, count-left-1) {
				for _, op := range infixTokens()[level] {
					put(a+" "+op+" "+b, "("+showA+" "+op+" "+showB+")")
				}
			}
		}
	}
}

func (g grammar) putOperands(count int, put func(text, show string)) {
	if count == 1 {
		for _, s := range []string{"a", "1", "null"} {
			put(s, s)
		}
	}
	for text, show := range g.of(0, count-2) {
		put("( "+text+" )", show)
	}
	for text, show := range g.of(0, count-3) {
		put("null ( "+text+" )", "null("+show+")")
	}
	for left := 1; left < count-4; left++ {
		for a, showA := range g.of(0, left) {
			for b, showB := range g.of(0, count-4-left) {
				put("least ( "+a+" , "+b+" )", "least("+showA+", "+showB+")")
			}
		}
	}
}

// Promise 4.1: of all texts of few tokens just those of the grammar are expressions.
func TestGrammar(t *testing.T) {
	tokens := []string{"a", "1", "null", "least", "-", "not", "*", "&", "=", "<=", "and", "or", "(", ")", ","}
	g := grammar{}
	counts := map[bool]int{}
	var check func(text string, count int)
	check = func(text string, count int) {
		want, wantE := "", api.ErrSyntax
		if show, ok := g.of(0, count)[text]; ok {
			want, wantE = show, api.OK
		}
		counts[wantE == api.OK]++
		if got, e := Show(text); got != want || e != wantE {
			t.Fatalf("Show(%q) = %q, %d, not %q, %d", text, got, e, want, wantE)
		}
		for _, token := range tokens {
			if count < 4 {
				check(strings.TrimLeft(text+" "+token, " "), count+1)
			}
		}
	}
	check("", 0)
	// Longer ones only where they are expressions: there are too many texts.
	for count := 5; count <= 6; count++ {
		for text, want := range g.of(0, count) {
			counts[true]++
			if got, e := Show(text); got != want || e != api.OK {
				t.Fatalf("Show(%q) = %q, %d, not %q", text, got, e, want)
			}
		}
	}
	t.Log(counts)
}
