package calc

import (
	"slices"
	"strconv"
	"strings"
	"testing"

	"tidewright/api"
)

// binding is what is bound to names.
type binding struct {
	schemas []api.Schema
	names   []string
	rows    []api.Row
}

// twoBound binds p and q, which have columns of the same names but of other kinds.
func twoBound() binding {
	return binding{
		schemas: []api.Schema{schema(), {{Name: "s", Kind: api.VInt}, {Name: "a", Kind: api.VText}, {Name: "z", Kind: api.VInt}}},
		names:   []string{"p", "q"},
		rows:    []api.Row{{num(10), {}, word("px"), {}}, {num(-3), word("qa"), {}}},
	}
}

// Promise 4.3.
func TestBound(t *testing.T) {
	r := api.Row{num(1), num(2), word("x"), {}}
	x := twoBound()
	for _, c := range []struct {
		text string
		kind int
		want api.Value
	}{
		{"a + p.a", api.VInt, num(11)}, {"a", api.VInt, num(1)}, {"p.a", api.VInt, num(10)}, {"q.a", api.VText, word("qa")}, {"s", api.VText, word("x")}, {"p.s", api.VText, word("px")}, {"q.s", api.VInt, num(-3)}, {"p.b", api.VInt, api.Value{}}, {"q.z", api.VInt, api.Value{}}, {"p.t", api.VText, api.Value{}},
		{"q.s < p.a and p.a > a", api.VInt, num(1)}, {"s & p.s & q.a", api.VText, word("xpxqa")}, {"null(q.z) + null(p.a)", api.VInt, num(1)}, {"if(null(p.b), q.a, p.s)", api.VText, word("qa")}, {"least(p.a, least(q.s, a))", api.VInt, num(-3)}, {"greatest(p.b, q.z)", api.VInt, api.Value{}}, {"null", api.VNull, api.Value{}},
		{"1 + 1", api.VInt, num(2)},
	} {
		kind, e := Bound(schema(), c.text, x.schemas, x.names)
		v, f := EvalBound(schema(), c.text, r, x.schemas, x.names, x.rows)
		if kind != c.kind || v != c.want || e != api.OK || f != api.OK {
			t.Errorf("%q: %d, %d; %v, %d, not %d, %v", c.text, kind, e, v, f, c.kind, c.want)
		}
	}
}

// Promise 4.3: without anything bound they are Kind and Eval; what is bound and not named changes nothing.
func TestBoundToNothing(t *testing.T) {
	r := api.Row{num(7), {}, word("12"), word("")}
	x := twoBound()
	texts := append(misfits(), "c", "p.a", "null", "a +")
	for _, s := range shows() {
		texts = append(texts, s[0])
	}
	for _, text := range texts {
		kind, e := Kind(schema(), text)
		v, f := Eval(schema(), text, r)
		if k, g := Bound(schema(), text, nil, []string{}); k != kind || g != e {
			t.Errorf("Bound(%q) = %d, %d, not %d, %d", text, k, g, kind, e)
		}
		if w, g := EvalBound(schema(), text, r, nil, nil, []api.Row{}); w != v || g != f {
			t.Errorf("EvalBound(%q) = %v, %d, not %v, %d", text, w, g, v, f)
		}
		if names, _ := Names(text); slices.ContainsFunc(names, func(n string) bool { return strings.Contains(n, ".") }) {
			continue
		}
		if k, g := Bound(schema(), text, x.schemas, x.names); k != kind || g != e {
			t.Errorf("Bound(%q) to two = %d, %d, not %d, %d", text, k, g, kind, e)
		}
		if w, g := EvalBound(schema(), text, r, x.schemas, x.names, x.rows); w != v || g != f {
			t.Errorf("EvalBound(%q) to two = %v, %d, not %v, %d", text, w, g, v, f)
		}
	}
}

// checkBoundErrors checks what both functions tell, and that there is nothing beside an error.
func checkBoundErrors(t *testing.T, text string, x binding, want, wantEval api.Errno) {
	t.Helper()
	if k, e := Bound(schema(), text, x.schemas, x.names); e != want || e != api.OK && k != 0 {
		t.Errorf("Bound(%q, %v, %q) = %d, %d, not %d", text, x.schemas, x.names, k, e, want)
	}
	if v, e := EvalBound(schema(), text, make(api.Row, 4), x.schemas, x.names, x.rows); e != wantEval || e != api.OK && v != (api.Value{}) {
		t.Errorf("EvalBound(%q, %v, %q, %v) = %v, %d, not %d", text, x.schemas, x.names, x.rows, v, e, wantEval)
	}
}

// Promise 4.3: names with a prefix that is not bound, or whose table lacks the column.
func TestBoundErrName(t *testing.T) {
	for _, text := range []string{"c", "p.c", "p.z", "q.b", "r.a", "a.p", "a.a", "z", "p.p", "pp.a", "p.a + r.a", "0 and q.t", "q.c + s", "-p.s + c"} {
		checkBoundErrors(t, text, twoBound(), api.ErrName, api.ErrName)
	}
	for _, text := range []string{"q.a + 1", "p.a & s", "-q.a", "q.s = p.s", "len(q.s)", "p.s and 1", "if(1, p.a, q.a)"} {
		checkBoundErrors(t, text, twoBound(), api.ErrKind, api.ErrKind)
	}
}

// Promise 4.3: schemas, rows and names that are not valid, wherever they stand.
func TestBoundErrInvalid(t *testing.T) {
	for i := range 2 {
		for _, s := range invalidSchemas() {
			x := twoBound()
			x.schemas[i], x.rows[i] = s, make(api.Row, len(s))
			checkBoundErrors(t, "1", x, api.ErrInvalid, api.ErrInvalid)
		}
		for _, name := range invalidNames() {
			x := twoBound()
			x.names[i] = name
			checkBoundErrors(t, "1", x, api.ErrInvalid, api.ErrInvalid)
		}
		for _, r := range []api.Row{nil, {}, make(api.Row, 2), make(api.Row, 5), {word("1"), {}, {}, {}}, {num(1), num(1), num(1), {}}, {num(1), num(1), {}}, {{N: 1}, {}, {}, {}}, {{N: 1}, {}, {}}, {{Kind: 7}, {}, {}}, {num(maxInt + 1), {}, {}, {}}, {num(maxInt + 1), {}, {}}} {
			x := twoBound()
			x.rows[i] = r
			checkBoundErrors(t, "1", x, api.OK, api.ErrInvalid)
		}
	}
	for _, s := range invalidSchemas() {
		if k, e := Bound(s, "1", nil, nil); k != 0 || e != api.ErrInvalid {
			t.Errorf("Bound over %v = %d, %d", s, k, e)
		}
	}
	if v, e := EvalBound(schema(), "1", make(api.Row, 3), nil, nil, nil); v != (api.Value{}) || e != api.ErrInvalid {
		t.Errorf("EvalBound of a row that does not fit = %v, %d", v, e)
	}
	// The words of the language are names of layer 2; no expression reads what is bound to them.
	x := twoBound()
	x.names = []string{"if", "null"}
	checkBoundErrors(t, "a", x, api.OK, api.OK)
	checkBoundErrors(t, "if.a", x, api.ErrSyntax, api.ErrSyntax)
}

// Promise 4.3: not as many names, schemas and rows; a name twice.
func TestBoundErrSize(t *testing.T) {
	for schemas := range 3 {
		for names := range 3 {
			for rows := range 3 {
				x := twoBound()
				x.schemas, x.names, x.rows = x.schemas[:schemas], x.names[:names], x.rows[:rows]
				want, wantEval := api.OK, api.OK
				if schemas != names {
					want, wantEval = api.ErrSize, api.ErrSize
				}
				if names != rows {
					wantEval = api.ErrSize
				}
				checkBoundErrors(t, "1", x, want, wantEval)
			}
		}
	}
	x := twoBound()
	x.schemas[1], x.rows[1] = x.schemas[0], x.rows[0]
	x.names[1] = "p"
	checkBoundErrors(t, "p.a", x, api.ErrDuplicate, api.ErrDuplicate)
	// There is no limit to what is bound.
	x = binding{}
	for i := range 1000 {
		x.schemas = append(x.schemas, schema())
		x.names = append(x.names, "p"+strconv.Itoa(i))
		x.rows = append(x.rows, api.Row{num(i), {}, {}, {}})
	}
	if v, e := EvalBound(schema(), "p0.a + p7.a + p999.a", make(api.Row, 4), x.schemas, x.names, x.rows); v != num(1006) || e != api.OK {
		t.Errorf("of a thousand: %v, %d", v, e)
	}
	x.names[998] = "p3"
	checkBoundErrors(t, "1", x, api.ErrDuplicate, api.ErrDuplicate)
}

// Promise 4.3: of several errors the first in order: of the text, what is not valid, sizes, a name twice, names, kinds.
func TestBoundErrorsInOrder(t *testing.T) {
	invalid := api.Schema{{Name: "A", Kind: api.VInt}}
	misfit := api.Row{word("x"), {}, {}, {}}
	for _, x := range []struct {
		what           string
		text           string
		change         func(x *binding)
		want, wantEval api.Errno
	}{
		{"a long text", strings.Repeat("(", api.MaxText+1), func(x *binding) { x.schemas[1] = invalid }, api.ErrLong, api.ErrLong},
		{"no expression", "c + s +", func(x *binding) { x.schemas[0], x.names, x.rows[0] = invalid, nil, misfit }, api.ErrSyntax, api.ErrSyntax},
		{"a deep one", chain(41) + " + c", func(x *binding) { x.schemas[0], x.names = invalid, nil }, api.ErrLimit, api.ErrLimit},
		{"a schema before sizes", "c + s", func(x *binding) { x.schemas[1], x.names = invalid, nil }, api.ErrInvalid, api.ErrInvalid},
		{"a schema of no name", "c + s", func(x *binding) { x.schemas = append(x.schemas, invalid) }, api.ErrInvalid, api.ErrInvalid},
		{"a name before sizes", "c + s", func(x *binding) { x.schemas, x.names[1] = nil, "P" }, api.ErrInvalid, api.ErrInvalid},
		{"a name of no schema", "c + s", func(x *binding) { x.names = append(x.names, "P") }, api.ErrInvalid, api.ErrInvalid},
		{"a row before sizes", "c + s", func(x *binding) { x.names, x.rows[1] = x.names[:1], misfit }, api.ErrSize, api.ErrInvalid},
		{"a row that is none, of no schema", "c + s", func(x *binding) { x.rows = append(x.rows, api.Row{{N: 1}}) }, api.ErrName, api.ErrInvalid},
		{"a row before a name twice", "c + s", func(x *binding) { x.names[1], x.rows[0] = "p", misfit }, api.ErrDuplicate, api.ErrInvalid},
		{"a schema before a name twice", "c + s", func(x *binding) { x.names[1], x.schemas[1] = "p", invalid }, api.ErrInvalid, api.ErrInvalid},
		{"sizes before a name twice", "c + s", func(x *binding) { x.names[1], x.schemas = "p", x.schemas[:1] }, api.ErrSize, api.ErrSize},
		{"rows' number before a name twice", "c + s", func(x *binding) { x.names[1], x.rows = "p", x.rows[:1] }, api.ErrDuplicate, api.ErrSize},
		{"a name twice before names", "c + s", func(x *binding) { x.names[1] = "p" }, api.ErrDuplicate, api.ErrDuplicate},
		{"sizes before kinds", "a + s", func(x *binding) { x.names = x.names[:1] }, api.ErrSize, api.ErrSize},
		{"names before kinds", "-s + q.b", func(x *binding) {}, api.ErrName, api.ErrName},
	} {
		b := twoBound()
		x.change(&b)
		t.Log(x.what)
		checkBoundErrors(t, x.text, b, x.want, x.wantEval)
	}
	if v, e := EvalBound(schema(), "a", misfit, nil, []string{"p"}, nil); v != (api.Value{}) || e != api.ErrInvalid {
		t.Errorf("a row that does not fit, before sizes: %v, %d", v, e)
	}
}
