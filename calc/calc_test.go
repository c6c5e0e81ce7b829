package calc

import (
	"slices"
	"strings"
	"testing"

	"tidewright/api"
)

const maxInt = api.MaxInt

func num(n int) api.Value { return api.Value{Kind: api.VInt, N: n} }

func word(s string) api.Value { return api.Value{Kind: api.VText, S: s} }

// schema has numbers (a, b) and texts (s, t).
func schema() api.Schema {
	return api.Schema{{Name: "a", Kind: api.VInt}, {Name: "b", Kind: api.VInt}, {Name: "s", Kind: api.VText}, {Name: "t", Kind: api.VText}}
}

// invalidSchemas are schemas each of which breaks one rule.
func invalidSchemas() []api.Schema {
	return []api.Schema{
		nil, {}, {{Name: "a"}}, {{Name: "a", Kind: 3}}, {{Name: "a", Kind: -1}}, {{Name: "", Kind: api.VInt}}, {{Name: "A", Kind: api.VInt}}, {{Name: "p.a", Kind: api.VInt}},
		{{Name: "a234567890123456x", Kind: api.VInt}}, {{Name: "a", Kind: api.VInt}, {Name: "a", Kind: api.VText}}, append(slices.Concat(schema(), schema()), schema()...),
	}
}

// invalidNames are not names of layer 2.
func invalidNames() []string {
	return []string{"", " ", "A", "1", "_a", "a ", " a", "a.b", "a-b", "aB", "é", "a234567890123456x", "a\x00", "(a)", "\"a\""}
}

// reserved are names of layer 2 that no expression reads as such.
func reserved() []string {
	return []string{"not", "and", "or", "null", "if", "len", "least", "greatest", "num", "text"}
}

// chain is an expression of so many levels.
func chain(levels int) string {
	return strings.Repeat("- ", levels-1) + "1"
}

// shows are expressions and what Show makes of them.
func shows() [][2]string {
	return [][2]string{
		// Operands.
		{"a", "a"}, {"  a  ", "a"}, {"(a)", "a"}, {"((( a)) )", "a"}, {"a_1", "a_1"}, {"a234567890123456", "a234567890123456"}, {"p.x", "p.x"}, {"a234567890123456.b234567890123456", "a234567890123456.b234567890123456"},
		{"0", "0"}, {"10", "10"}, {"1000000000000000", "1000000000000000"}, {"null", "null"}, {"(null)", "null"},
		{`""`, `""`}, {`"a b"`, `"a b"`}, {`"\"\\\n\x00\xff"`, `"\"\\\n\x00\xff"`}, {`")("`, `")("`}, {`"a and b"`, `"a and b"`}, {`"` + strings.Repeat("x", 200) + `"`, `"` + strings.Repeat("x", 200) + `"`},
		// Words that only begin as those of the language do, and such beside a column.
		{"nota", "nota"}, {"not1", "not1"}, {"and_", "and_"}, {"ors", "ors"}, {"nulls", "nulls"}, {"iff", "iff"}, {"lens", "lens"}, {"texts", "texts"}, {"nots.ands", "nots.ands"}, {"int", "int"},
		// Each operator and each call.
		{"-a", "(- a)"}, {"- 5", "(- 5)"}, {"-5", "(- 5)"}, {"not a", "(not a)"}, {"not(a)", "(not a)"},
		{"a*b", "(a * b)"}, {"a/b", "(a / b)"}, {"a%b", "(a % b)"}, {"a+b", "(a + b)"}, {"a-b", "(a - b)"}, {"a&b", "(a & b)"},
		{"a=b", "(a = b)"}, {"a!=b", "(a != b)"}, {"a<b", "(a < b)"}, {"a<=b", "(a <= b)"}, {"a>b", "(a > b)"}, {"a>=b", "(a >= b)"},
		{"a and b", "(a and b)"}, {"a or b", "(a or b)"}, {"(a)and(b)", "(a and b)"}, {"(a)or(b)", "(a or b)"}, {`"a"and"b"`, `("a" and "b")`}, {"1and 2", "(1 and 2)"},
		{"if(a,b,1)", "if(a, b, 1)"}, {"if ( a , b , 1 )", "if(a, b, 1)"}, {"null(a)", "null(a)"}, {"null (a)", "null(a)"}, {"null(null)", "null(null)"}, {"len( s )", "len(s)"},
		{"least(a,b)", "least(a, b)"}, {"greatest(a,b)", "greatest(a, b)"}, {"num(s)", "num(s)"}, {"text(a)", "text(a)"}, {"text(num(len(s)))", "text(num(len(s)))"},
		{"if((a), (b + 1), -1)", "if(a, (b + 1), (- 1))"}, {"least(a or b, a and b)", "least((a or b), (a and b))"},
		// Of one level from the left.
		{"a*b*c", "((a * b) * c)"}, {"a/b*c%d", "(((a / b) * c) % d)"}, {"a-b-c", "((a - b) - c)"}, {"a-b+c&d", "(((a - b) + c) & d)"}, {"a and b and c", "((a and b) and c)"}, {"a or b or c", "((a or b) or c)"},
		{"a-(b-c)", "(a - (b - c))"}, {"a and (b and c)", "(a and (b and c))"},
		// Each level against the next one, on either side.
		{"-a*b", "((- a) * b)"}, {"a*-b", "(a * (- b))"}, {"not a*b", "((not a) * b)"}, {"-(a*b)", "(- (a * b))"},
		{"a*b+c", "((a * b) + c)"}, {"a+b*c", "(a + (b * c))"}, {"(a+b)*c", "((a + b) * c)"}, {"a&b/c", "(a & (b / c))"}, {"a%b-c", "((a % b) - c)"},
		{"a+b=c", "((a + b) = c)"}, {"a=b+c", "(a = (b + c))"}, {"a+(b=c)", "(a + (b = c))"}, {"not a = b", "((not a) = b)"}, {"a <= -b", "(a <= (- b))"}, {"a<-b", "(a < (- b))"}, {"a=not b", "(a = (not b))"},
		{"a=b and c", "((a = b) and c)"}, {"a and b=c", "(a and (b = c))"}, {"a=b and c=d", "((a = b) and (c = d))"}, {"(a=b)=c", "((a = b) = c)"}, {"a=(b=c)", "(a = (b = c))"}, {"(a<b)!=(c>d)", "((a < b) != (c > d))"},
		{"a and b or c", "((a and b) or c)"}, {"a or b and c", "(a or (b and c))"}, {"(a or b) and c", "((a or b) and c)"}, {"a or b and c = d + e * -f", "(a or (b and (c = (d + (e * (- f))))))"}, {"-f*e+d=c and b or a", "((((((- f) * e) + d) = c) and b) or a)"},
		// Repeated before an operand.
		{"--a", "(- (- a))"}, {"a--b", "(a - (- b))"}, {"a - - - b", "(a - (- (- b)))"}, {"not not a", "(not (not a))"}, {"not-a", "(not (- a))"}, {"-not a", "(- (not a))"},
		{" a*2+ -b =if(a,null , p.x)and not s", "((((a * 2) + (- b)) = if(a, null, p.x)) and (not s))"},
	}
}

// wrong are texts that are no expressions.
func wrong() []string {
	texts := []string{
		"", " ", "   ", "()", "( )", "(", ")", "(a", "a)", "((a)", "(a))", ")a(", "a b", "a 1", "1 a", "1 2", "1a", "a(", "a()", "a(b)", "1(2)", "(a)(b)", "(a)b", "a(b", `"a""b"`, `"a" "b"`, `"a"b`, `a"b"`,
		"+", "*", "-", "not", "and", "or", "=", "a +", "+ a", "* a", "a *", "a -", "a not", "a not b", "a not = b", "a and", "and a", "or a", "a or", "a and and b", "a or or b", "a and or b", "a + * b", "a * / b", "- ", "a - ", "not not", "= a", "a =", "& a", "a + + b", "a % % b", "- + a", "not * a", "-)", "(-)", "(not)", "not )",
		// Comparisons do not group.
		"a = b = 1", "a = b != c", "a < b < c", "a <= b > c", "a = b + c = d", "a and b = c = d", "a = b = c and d", "(a) = (b) = (c)", "if(a = b = c, 1, 2)", "a = b >= c or d",
		// Signs that there are not.
		"a == b", "a => b", "a =< b", "a <> b", "a >< b", "a < = b", "a > = b", "a ! = b", "a ! b", "!a", "a !", "a !== b", "a && b", "a || b", "a | b", "a ^ b", "a ** b", "a // b", "~", "~ + 1", "a ; b", "a; b", "a, b", ",", "a,", "[a]", "{a}", "a?b:c", "#", "a @ b", "a$", "'a'", "`a`", `\`,
		// Only blanks are such.
		"a\tand b", "a\n", "\na", "a\r", "a\x00", "\x00", "a\u00a0", "\u00a0a", "a\v+ b",
		// Numbers and texts are as in a row's text.
		"007", "00", "01", "0 1", "1000000000000001", "-1000000000000001", "10000000000000000", "9223372036854775808", "99999999999999999999999999", "1.0", "1.", ".1", "1e3", "0x1", "1_000", "+1", "1 000", "½", "١",
		`"`, `"a`, `a"`, `"""`, `"a\"`, `"\`, `"\q"`, `"\x41"`, `"\xFF"`, `"\x0A"`, `"\x0a"`, `"\x"`, `"\x1"`, `"\t"`, "\"\n\"", "\"\t\"", "\"é\"", "\"\xff\"", "\"\x7f\"", `"` + strings.Repeat("x", 201) + `"`, `"` + strings.Repeat(`\x01`, 201) + `"`,
		// Names.
		"A", "aB", "Ab", "_a", "é", "a-B", "a234567890123456x", "a.", ".a", ".", "a..b", "a. b", "a .b", "a . b", "a.b.c", "a.1", "1.a", "a._b", "_a.b", "a.B", "A.b", "a.(b)", "(a).b", "a.-b", `a."b"`, `"a".b`, "a234567890123456x.b", "a.a234567890123456x", "a.*", "a\x00b", "a'",
		// Calls.
		"if()", "if(a)", "if(a, b)", "if(a, b, c, d)", "if(a b c)", "if(a, b, c", "if a, b, c)", "if(, b, c)", "if(a,, c)", "if(a, b,)", "if(a, b, c,)", "if(a; b; c)", "null()", "null(a, b)", "null(1, 2)", "null(", "null)", "null a", "a null", "null null", "null 1", "len()", "len(a, b)", "len a", "len(a", "len(a))", "least()", "least(a)", "least(a, b, c)", "greatest(a)", "greatest(a, b, c)", "greatest a, b", "num()", "num(a, b)", "text()", "text(a, b)", "text(())", "least((a, b))", "IF(a, b, c)", "abs(a)", "not()", "and(a, b)", "or(a, b)", "- ()", "min(a, b)",
	}
	for _, w := range reserved() {
		if w != "null" { // which is an operand, too
			texts = append(texts, w, "("+w+")", w+" + 1", "1 + "+w, "not "+w, w+" = a", "a "+w)
		}
		texts = append(texts, w+".a", "a."+w, w+"."+w, w+".", "."+w, w+".a(a)", "a."+w+"(a)", "a "+w+".b", w+" .a")
	}
	for _, x := range shows() {
		s := x[1]
		texts = append(texts, s+")", "("+s, s+" "+s, s+"\n", "\t"+s, s+" and", "or "+s, s+",", "()"+s, "("+s+")"+s, strings.ReplaceAll(s, "(", "[")+"[")
	}
	return texts
}

// Promise 4.1.
func TestShow(t *testing.T) {
	for _, x := range shows() {
		for _, text := range []string{x[0], x[1]} { // P4.2: that of Show is itself
			if got, e := Show(text); got != x[1] || e != api.OK || !Valid(text) {
				t.Errorf("Show(%q) = %q, %d, not %q", text, got, e, x[1])
			}
		}
	}
}

// Promise 4.1.
func TestSyntax(t *testing.T) {
	for _, text := range wrong() {
		if got, e := Show(text); got != "" || e != api.ErrSyntax || Valid(text) {
			t.Errorf("Show(%q) = %q, %d", text, got, e)
		}
	}
}

// Promise 4.1.
func TestNames(t *testing.T) {
	for _, x := range []struct {
		text string
		want []string
	}{
		{"1", nil}, {"null", nil}, {`"a"`, nil}, {"if(1, 2, null(3))", nil}, {"a", []string{"a"}}, {"p.a", []string{"p.a"}}, {"b + a + p.x + a", []string{"a", "b", "p.x"}},
		{"a + p.a + q.a + p.b", []string{"a", "p.a", "p.b", "q.a"}}, {"a0 + a.b + a_ + aa + a", []string{"a", "a.b", "a0", "a_", "aa"}}, {"a10 = a9", []string{"a10", "a9"}},
		{"if(z, least(y, -x), not len(w)) or num(v) & text(u)", []string{"u", "v", "w", "x", "y", "z"}}, {strings.Repeat("(a or p.a) and ", 20) + "a", []string{"a", "p.a"}},
	} {
		if got, e := Names(x.text); !slices.Equal(got, x.want) || e != api.OK {
			t.Errorf("Names(%q) = %q, %d, not %q", x.text, got, e, x.want)
		}
	}
	for _, text := range wrong() {
		if got, e := Names(text); len(got) != 0 || e != api.ErrSyntax {
			t.Errorf("Names(%q) = %q, %d", text, got, e)
		}
	}
}

// called are all functions that read an expression: what error they tell, and whether there is something beside it.
func called(text string) map[string]func() (api.Errno, bool) {
	s, r := schema(), make(api.Row, 4)
	return map[string]func() (api.Errno, bool){
		"Show":      func() (api.Errno, bool) { x, e := Show(text); return e, x != "" },
		"Names":     func() (api.Errno, bool) { x, e := Names(text); return e, len(x) > 0 },
		"Kind":      func() (api.Errno, bool) { x, e := Kind(s, text); return e, x != 0 },
		"Eval":      func() (api.Errno, bool) { x, e := Eval(s, text, r); return e, x != api.Value{} },
		"Truth":     func() (api.Errno, bool) { x, e := Truth(s, text, r); return e, x },
		"Bound":     func() (api.Errno, bool) { x, e := Bound(s, text, nil, nil); return e, x != 0 },
		"EvalBound": func() (api.Errno, bool) { x, e := EvalBound(s, text, r, nil, nil, nil); return e, x != api.Value{} },
		"Renamed":   func() (api.Errno, bool) { x, e := Renamed(text, nil, nil); return e, x != "" },
		"And":       func() (api.Errno, bool) { x, e := And(text, "1"); return e, x != "" },
		"And's b":   func() (api.Errno, bool) { x, e := And("1", text); return e, x != "" },
	}
}

// checkAll checks that all functions that read an expression tell an error, and nothing beside it.
func checkAll(t *testing.T, text string, want api.Errno) {
	t.Helper()
	for name, call := range called(text) {
		if e, more := call(); e != want || more {
			t.Errorf("%s of %d bytes, %.20q..: %d, not %d, or something beside it", name, len(text), text, e, want)
		}
	}
	if Valid(text) {
		t.Errorf("%.20q.. is valid", text)
	}
	if v, ok := Constant(text); v != (api.Value{}) || ok {
		t.Errorf("Constant(%.20q..) = %v, %v", text, v, ok)
	}
}

// Promises 4.1 to 4.4: all of them tell a text that is none, that is too long or too deep.
func TestErrorsOfTexts(t *testing.T) {
	for _, text := range []string{"", "a +", "a = b = 1", "(a", "if(1, 2)", "\"", "a b", "A"} {
		checkAll(t, text, api.ErrSyntax)
	}
	full := strings.Repeat(" ", api.MaxText-1) + "1"
	if got, e := Show(full); got != "1" || e != api.OK || !Valid(full) {
		t.Errorf("Show of MaxText bytes = %q, %d", got, e)
	}
	checkAll(t, full+" ", api.ErrLong)
	checkAll(t, strings.Repeat("x", api.MaxText), api.ErrSyntax)
	checkAll(t, strings.Repeat("x", api.MaxText+1), api.ErrLong)
	checkAll(t, chain(20000)+strings.Repeat(" ", api.MaxText), api.ErrLong)
	checkAll(t, chain(api.MaxDeep+1), api.ErrLimit)
	checkAll(t, chain(30000), api.ErrLimit)
	// What is no expression is that, however deep it is.
	checkAll(t, chain(api.MaxDeep+1)+" 1", api.ErrSyntax)
	checkAll(t, chain(30000)+" +", api.ErrSyntax)
	checkAll(t, strings.Repeat("-", 30000), api.ErrSyntax)
}

// Promise 4.1: an operand has one level, an operator or a call one more than its deepest argument, parentheses none.
func TestLevels(t *testing.T) {
	nested := func(levels int, before, inner, after string) string {
		return strings.Repeat(before, levels-1) + inner + strings.Repeat(after, levels-1)
	}
	for _, x := range [][3]string{
		{"-", "1", ""}, {"- (", "a", ")"}, {"not ", "p.x", ""}, {"not((", `"x"`, "))"}, {"", "1", "+1"}, {"", "1", " and 1"}, {"1 + (", "null", ")"}, {"1 or (", "1", ") "}, {"(1 <= ", "1", ")"},
		{"len(", "1", ")"}, {"null(", "null", ")"}, {"text(", "1", ")"}, {"num(", "1", ")"}, {"if(", "1", ", 2, 3)"}, {"if(1, ", "1", ", 3)"}, {"if(1, 2, ", "1", ")"}, {"least(", "1", ", 2)"}, {"greatest(2, ", "1", ")"},
	} {
		levels := func(n int) string { return nested(n, x[0], x[1], x[2]) }
		if s, e := Show(levels(api.MaxDeep)); s == "" || e != api.OK {
			t.Errorf("40 levels of %q: %q, %d", x, s, e)
		}
		if s, e := Show(levels(api.MaxDeep + 1)); s != "" || e != api.ErrLimit {
			t.Errorf("41 levels of %q: %q, %d", x, s, e)
		}
	}
	deep := strings.Repeat("(", 32000)
	if s, e := Show(deep + "a" + strings.Repeat(")", 32000)); s != "a" || e != api.OK {
		t.Errorf("parentheses make levels: %q, %d", s, e)
	}
	// What is wide is not deep.
	wide := "1"
	for range 12 {
		wide = "least(" + wide + "," + wide + ")"
	}
	if s, e := Show(wide); len(s) <= len(wide) || e != api.OK {
		t.Errorf("a wide one: %d bytes, %d", len(s), e)
	}
}

// Promise 4.1: what Show writes may be longer than what it reads.
func TestShowLong(t *testing.T) {
	text := "1"
	for len(text) < api.MaxText/2 {
		text = "(" + text + ")+(" + text + ")"
	}
	short := strings.NewReplacer("(1)", "1").Replace(text)
	s, e := Show(short)
	if len(s) <= len(short) || e != api.OK {
		t.Fatalf("%d bytes make %d, %d", len(short), len(s), e)
	}
	plus := strings.Count(short, "+")
	if strings.Count(s, " + ") != plus || len(s) != 5*plus+strings.Count(short, "1") {
		t.Errorf("%d operators make %d bytes", plus, len(s))
	}
}
