package calc

import (
	"slices"
	"strings"
	"testing"

	"tidewright/api"
)

// Promise 4.2.
func TestKind(t *testing.T) {
	const i, x, n = api.VInt, api.VText, api.VNull
	for _, c := range []struct {
		text string
		want int
	}{
		{"a", i}, {"s", x}, {"1", i}, {`""`, x}, {"null", n}, {"(null)", n},
		{"-a", i}, {"not a", i}, {"a * b", i}, {"a / b", i}, {"a % b", i}, {"a + b", i}, {"a - b", i}, {"s & t", x}, {"a = b", i}, {"s = t", i}, {"s < t", i}, {"a >= b", i}, {"s != t", i}, {"a and b", i}, {"a or b", i},
		{"null(a)", i}, {"null(s)", i}, {"len(s)", i}, {"num(a)", i}, {"num(s)", i}, {"text(a)", x}, {"text(s)", x},
		{"least(a, b)", i}, {"least(s, t)", x}, {"greatest(a, b)", i}, {"greatest(s, t)", x}, {"if(a, b, 1)", i}, {"if(a, s, t)", x},
		// Null fits everywhere; where it comes out, the other one's kind counts.
		{"-null", i}, {"not null", i}, {"null * a", i}, {"a / null", i}, {"null % null", i}, {"null + 1", i}, {"null - null", i}, {"null & s", x}, {"s & null", x}, {"null & null", x},
		{"null = null", i}, {"null = a", i}, {"s = null", i}, {"null < s", i}, {"null and a", i}, {"a or null", i}, {"null and null", i}, {"null(null)", i}, {"len(null)", i}, {"num(null)", i}, {"text(null)", x},
		{"least(null, null)", n}, {"least(null, a)", i}, {"least(s, null)", x}, {"greatest(null, null)", n}, {"greatest(a, null)", i}, {"greatest(null, s)", x},
		{"if(a, null, null)", n}, {"if(null, null, null)", n}, {"if(a, null, b)", i}, {"if(a, s, null)", x}, {"if(null, s, t)", x}, {"if(s = t, null, s)", x},
		{"if(a, null, null) + 1", i}, {"if(a, null, null) & s", x}, {"least(null, null) = s", i}, {"if(if(a, null, null), least(null, greatest(null, null)), s)", x},
	} {
		if got, e := Kind(schema(), c.text); got != c.want || e != api.OK {
			t.Errorf("Kind(%q) = %d, %d, not %d", c.text, got, e, c.want)
		}
	}
}

// misfits are expressions over the schema in which kinds do not fit.
func misfits() []string {
	texts := []string{
		"-s", `-""`, "not s", "not text(a)", "a & b", "a & s", "s & a", "s & 1", "len(a)", "len(1)", "len(len(s))", "if(s, 1, 2)", `if("", null, null)`, "if(a, b, s)", "if(a, s, 1)", "least(a, s)", "least(s, a)", "greatest(a, t)", `greatest("", 0)`,
		"a + (s = b)", "num(a + s)", "null(a & s)", "text(-s)", "if(1, 1, len(a))", "if(0, -s, 1)", "0 and s", "1 or s", "s and 0", "least(null, if(a, s, 1))", "text(a) + 1", "num(s) & t", "least(s, null) + a", "if(a, null, s) * 2", "null + s", "s - null", "a & null", "null and s",
	}
	for _, op := range []string{"*", "/", "%", "+", "-", "and", "or"} {
		texts = append(texts, "a "+op+" s", "s "+op+" a", "s "+op+" t")
	}
	for _, op := range []string{"=", "!=", "<", "<=", ">", ">="} {
		texts = append(texts, "a "+op+" s", "s "+op+" a", "1 "+op+` "1"`, "text(a) "+op+" b", "s "+op+" num(s)")
	}
	return texts
}

// checkErrors checks what Kind, Eval and Truth tell with a row of nulls, and that there is nothing beside an error.
func checkErrors(t *testing.T, s api.Schema, text string, r api.Row, kindE, evalE, truthE api.Errno) {
	t.Helper()
	if got, e := Kind(s, text); e != kindE || e != api.OK && got != 0 {
		t.Errorf("Kind(%q) = %d, %d, not %d", text, got, e, kindE)
	}
	if got, e := Eval(s, text, r); e != evalE || e != api.OK && got != (api.Value{}) {
		t.Errorf("Eval(%q) = %v, %d, not %d", text, got, e, evalE)
	}
	if got, e := Truth(s, text, r); e != truthE || e != api.OK && got {
		t.Errorf("Truth(%q) = %v, %d, not %d", text, got, e, truthE)
	}
}

// Promise 4.2: kinds that do not fit.
func TestErrKind(t *testing.T) {
	for _, text := range misfits() {
		checkErrors(t, schema(), text, make(api.Row, 4), api.ErrKind, api.ErrKind, api.ErrKind)
	}
	// The kind counts, not the value: one of a text that is null is no truth.
	for _, text := range []string{"s", `""`, `"1"`, "text(a)", "s & t", "if(a, s, null)", "least(null, s)", "text(null)", "null & null"} {
		checkErrors(t, schema(), text, make(api.Row, 4), api.OK, api.OK, api.ErrKind)
	}
}

// Promise 4.2: columns that there are not, and names with a prefix.
func TestErrName(t *testing.T) {
	for _, text := range []string{"c", "a1", "p.a", "a.b", "a.a", "s.s", "a + c", "c + a", "if(1, a, c)", "null(c)", "0 and c", "if(0, p.a, 1)", "len(q.s)"} {
		checkErrors(t, schema(), text, make(api.Row, 4), api.ErrName, api.ErrName, api.ErrName)
	}
	// Columns with names that are no such in expressions hinder no others.
	var s api.Schema
	for _, w := range reserved()[:7] {
		s = append(s, api.Column{Name: w, Kind: api.VText})
	}
	s = append(s, api.Column{Name: "a", Kind: api.VInt})
	checkErrors(t, s, "a", make(api.Row, 8), api.OK, api.OK, api.OK)
	checkErrors(t, s, "if", make(api.Row, 8), api.ErrSyntax, api.ErrSyntax, api.ErrSyntax)
	if k, e := Kind(s, "null"); k != api.VNull || e != api.OK {
		t.Errorf("null with a column of this name: %d, %d", k, e)
	}
}

// Promise 4.2: schemas, and rows that do not fit them.
func TestErrInvalid(t *testing.T) {
	for _, s := range invalidSchemas() {
		checkErrors(t, s, "1", make(api.Row, len(s)), api.ErrInvalid, api.ErrInvalid, api.ErrInvalid)
	}
	for _, r := range []api.Row{
		nil, {}, make(api.Row, 3), make(api.Row, 5), make(api.Row, 9), {word("1"), {}, {}, {}}, {{}, {}, num(1), {}}, {num(maxInt + 1), {}, {}, {}}, {num(-maxInt - 1), {}, {}, {}}, {{N: 1}, {}, {}, {}}, {{Kind: 3}, {}, {}, {}}, {{Kind: api.VInt, S: "x"}, {}, {}, {}},
		{{}, {}, word(strings.Repeat("x", 201)), {}}, {{}, {}, {Kind: api.VText, N: 1}, {}},
	} {
		checkErrors(t, schema(), "1", r, api.OK, api.ErrInvalid, api.ErrInvalid)
	}
}

// Promise 4.2: of several errors the first in order: of the text, of schema and row, of names, of kinds.
func TestErrorsInOrder(t *testing.T) {
	bad := append(schema(), api.Column{Name: "a", Kind: api.VInt})
	for _, x := range []struct {
		s    api.Schema
		text string
		want api.Errno
	}{
		{bad, strings.Repeat("(", api.MaxText+1), api.ErrLong}, {bad, "c + s +", api.ErrSyntax}, {bad, chain(41) + " +", api.ErrSyntax}, {bad, chain(41) + " + c", api.ErrLimit}, {bad, "c + s", api.ErrInvalid}, {bad, "a + s", api.ErrInvalid},
		{schema(), "a + s + c", api.ErrName}, {schema(), "c + a + s", api.ErrName}, {schema(), "-s + p.x", api.ErrName}, {schema(), chain(40)[:74] + "-s + c", api.ErrName}, {schema(), "-s", api.ErrKind},
	} {
		checkErrors(t, x.s, x.text, make(api.Row, len(x.s)), x.want, x.want, x.want)
	}
	checkErrors(t, schema(), "c + s", nil, api.ErrName, api.ErrInvalid, api.ErrInvalid)
	checkErrors(t, schema(), "a + s", nil, api.ErrKind, api.ErrInvalid, api.ErrInvalid)
	checkErrors(t, schema(), "s", nil, api.OK, api.ErrInvalid, api.ErrInvalid)
	checkErrors(t, schema(), "s +", nil, api.ErrSyntax, api.ErrSyntax, api.ErrSyntax)
}

// Promise 4.2: a schema of the most columns that there may be, and of one.
func TestKindOfColumns(t *testing.T) {
	full := slices.Concat(schema(), api.Schema{{Name: "c", Kind: api.VText}, {Name: "d", Kind: api.VInt}, {Name: "a234567890123456", Kind: api.VText}, {Name: "b_1", Kind: api.VInt}})
	for i := range full {
		for _, s := range []api.Schema{full, full[i : i+1], full[:i+1]} {
			if k, e := Kind(s, full[i].Name); k != full[i].Kind || e != api.OK {
				t.Errorf("Kind(%v, %q) = %d, %d", s, full[i].Name, k, e)
			}
		}
	}
}
