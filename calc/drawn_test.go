package calc

import (
	"math/rand"
	"slices"
	"strings"
	"testing"

	"tidewright/api"
)

// draws gives expressions, and rows to evaluate them for.
type draws struct{ *rand.Rand }

func newDraws(seed int64) draws { return draws{rand.New(rand.NewSource(seed))} }

func pick[E any](d draws, l ...E) E { return l[d.Intn(len(l))] }

// part gives an expression that is mostly of the kind told. With prefixes, some of its names have one.
func (d draws) part(kind, levels int, prefixes bool) *part {
	if d.Intn(40) == 0 {
		kind = pick(d, api.VInt, api.VText)
	}
	if levels <= 1 || d.Intn(5) == 0 {
		return &part{name: d.operand(kind, prefixes)}
	}
	of := func(name string, kinds ...int) *part {
		p := &part{name: name}
		for _, k := range kinds {
			p.parts = append(p.parts, d.part(k, levels-1, prefixes))
		}
		return p
	}
	any := pick(d, api.VInt, api.VText)
	if d.Intn(6) == 0 {
		return pick(d, of("if", api.VInt, kind, kind), of("least", kind, kind), of("greatest", kind, kind))
	}
	if kind == api.VText {
		return pick(d, of("&", kind, kind), of("&", kind, kind), of("text", any))
	}
	switch d.Intn(10) {
	case 0, 1:
		return of(pick(d, "-", "not"), kind)
	case 2:
		return pick(d, of("null", any), of("num", any), of("num", api.VText), of("len", api.VText))
	case 3, 4:
		return of(pick(d, "=", "!=", "<", "<=", ">", ">="), any, any)
	}
	return of(pick(d, "*", "/", "%", "+", "-", "and", "or"), kind, kind)
}

func (d draws) operand(kind int, prefixes bool) string {
	if d.Intn(15) == 0 {
		return "null"
	}
	if d.Intn(2) == 0 {
		name := pick(d, "a", "b")
		if kind == api.VText {
			name = pick(d, "s", "t")
		}
		if prefixes && d.Intn(2) == 0 {
			return pick(d, "p.", "q.") + name
		}
		return name
	}
	if kind == api.VText {
		return pick(d, `""`, `"a"`, `"ab"`, `"5"`, `"-07"`, `"\"\\"`, `"\n\xff"`, `"and ("`, `"`+strings.Repeat("x", 150)+`"`)
	}
	return pick(d, "0", "1", "2", "3", "7", "10", "31622777", "999999999999999", "1000000000000000")
}

// row gives a row of the schema.
func (d draws) row() api.Row {
	number := func() api.Value {
		return pick(d, api.Value{}, num(0), num(1), num(-1), num(7), num(-12), num(maxInt), num(-maxInt), num(d.Intn(100)))
	}
	text := func() api.Value {
		return pick(d, api.Value{}, word(""), word("a"), word("12"), word("-012"), word("\x00\xff"), word(strings.Repeat("y", 120)))
	}
	return api.Row{number(), number(), text(), text()}
}

// drawn is an expression with the rows that its names mean, and what the model tells of it.
type drawn struct {
	part  *part
	text  string
	rows  map[string]api.Row // by the prefix
	kind  int
	value api.Value
}

func (d draws) drawn(prefixes bool) drawn {
	p := d.part(pick(d, api.VInt, api.VInt, api.VText), 1+d.Intn(6), prefixes)
	x := drawn{part: p, text: p.text(d.Rand), rows: map[string]api.Row{"": d.row(), "p": d.row(), "q": d.row()}}
	column := func(name string) (string, int) {
		prefix, column, ok := strings.Cut(name, ".")
		if !ok {
			prefix, column = "", name
		}
		return prefix, strings.Index("abst", column)
	}
	x.kind = p.kind(func(name string) int {
		_, c := column(name)
		return schema()[c].Kind
	})
	if x.kind != misfit {
		x.value = valueOfTold(p.value(func(name string) told {
			prefix, c := column(name)
			return modelled(x.rows[prefix][c])
		}))
	}
	return x
}

// eval evaluates an expression in the place of the drawn one's text.
func (x drawn) eval(text string) (int, api.Value, api.Errno, api.Errno) {
	schemas, names, rows := []api.Schema{schema(), schema()}, []string{"q", "p"}, []api.Row{x.rows["q"], x.rows["p"]}
	k, e := Bound(schema(), text, schemas, names)
	v, f := EvalBound(schema(), text, x.rows[""], schemas, names, rows)
	return k, v, e, f
}

// Promises 4.1 to 4.3, P4.2 and P4.3: drawn expressions against the model.
func TestDrawn(t *testing.T) {
	d := newDraws(4)
	counts := map[int]int{}
	for range 20000 {
		x := d.drawn(true)
		show := x.part.show()
		if got, e := Show(x.text); got != show || e != api.OK || !Valid(x.text) {
			t.Fatalf("Show(%q) = %q, %d, not %q", x.text, got, e, show)
		}
		if got, e := Show(show); got != show || e != api.OK {
			t.Fatalf("Show(%q) = %q, %d", show, got, e)
		}
		names := x.part.names()
		slices.Sort(names)
		if got, e := Names(x.text); !slices.Equal(got, slices.Compact(names)) || e != api.OK {
			t.Fatalf("Names(%q) = %q, %d", x.text, got, e)
		}
		want := api.OK
		counts[x.kind]++
		if x.kind == misfit {
			x.kind, want = 0, api.ErrKind
		}
		for _, text := range []string{x.text, show} {
			if k, v, e, f := x.eval(text); k != x.kind || v != x.value || e != want || f != want {
				t.Fatalf("%q of %v = %d, %v, %d, %d, not %d, %v, %d", text, x.rows, k, v, e, f, x.kind, x.value, want)
			}
		}
		if x.value.Kind != api.VNull && x.value.Kind != x.kind {
			t.Fatalf("%q of %v = %v, but has the kind %d", x.text, x.rows, x.value, x.kind)
		}
	}
	for _, kind := range []int{misfit, api.VInt, api.VText} {
		if counts[kind] < 1000 {
			t.Errorf("only %d expressions of the kind %d were drawn", counts[kind], kind)
		}
	}
}

// Promises 4.2 and 4.4: Kind, Eval, Truth and Constant tell the same as the model; And binds what it is given.
func TestDrawnWithoutPrefixes(t *testing.T) {
	d := newDraws(5)
	before := d.drawn(false)
	for range 10000 {
		x := d.drawn(false)
		kind, want, truthE := x.kind, api.OK, api.OK
		switch kind {
		case misfit:
			kind, want, truthE = 0, api.ErrKind, api.ErrKind
		case api.VText:
			truthE = api.ErrKind
		}
		if k, e := Kind(schema(), x.text); k != kind || e != want {
			t.Fatalf("Kind(%q) = %d, %d, not %d, %d", x.text, k, e, kind, want)
		}
		if v, e := Eval(schema(), x.text, x.rows[""]); v != x.value || e != want {
			t.Fatalf("Eval(%q) of %v = %v, %d, not %v, %d", x.text, x.rows[""], v, e, x.value, want)
		}
		if is, e := Truth(schema(), x.text, x.rows[""]); is != (truthE == api.OK && x.value.N != 0) || e != truthE {
			t.Fatalf("Truth(%q) of %v = %v, %d", x.text, x.rows[""], is, e)
		}
		constant := want == api.OK && len(x.part.names()) == 0
		if v, ok := Constant(x.text); ok != constant || ok && v != x.value || !ok && v != (api.Value{}) {
			t.Fatalf("Constant(%q) = %v, %v", x.text, v, ok)
		}
		if got, e := And(before.text, x.text); got != "("+before.part.show()+" and "+x.part.show()+")" || e != api.OK {
			t.Fatalf("And(%q, %q) = %q, %d", before.text, x.text, got, e)
		}
		before = x
	}
}

// Promise P4.4, of drawn operands.
func TestDrawnTruths(t *testing.T) {
	d := newDraws(6)
	for range 5000 {
		x := drawn{rows: map[string]api.Row{"": d.row(), "p": d.row(), "q": d.row()}}
		a, b := d.part(api.VInt, 4, true).text(d.Rand), d.part(api.VInt, 4, true).text(d.Rand)
		for _, same := range [][2]string{
			{"not ((" + a + ") and (" + b + "))", "(not (" + a + ")) or (not (" + b + "))"},
			{"not ((" + a + ") or (" + b + "))", "(not (" + a + ")) and (not (" + b + "))"},
			{"(" + a + ") and (" + b + ")", "(" + b + ") and (" + a + ")"},
			{"(" + a + ") or (" + b + ")", "(" + b + ") or (" + a + ")"},
		} {
			k, v, e, f := x.eval(same[0])
			if k2, v2, e2, f2 := x.eval(same[1]); k != k2 || v != v2 || e != e2 || f != f2 {
				t.Fatalf("of %v: %q = %d, %v, %d, %d, but %q = %d, %v, %d, %d", x.rows, same[0], k, v, e, f, same[1], k2, v2, e2, f2)
			}
		}
	}
}

// Promise P4.5: with the columns of the schema renamed alike, and those that are bound as they were.
func TestDrawnRenamed(t *testing.T) {
	d := newDraws(7)
	from := []string{"a", "b", "s", "t"}
	schemas, names := []api.Schema{schema(), schema()}, []string{"p", "q"}
	for range 5000 {
		x := d.drawn(true)
		to := slices.Clone(pick(d, []string{"b", "a", "t", "s"}, []string{"s", "t", "a", "b"}, []string{"x", "y", "p", "q"}, []string{"nots", "a_1", "b", "a234567890123456"}, from))
		renamed := schema()
		for i := range renamed {
			renamed[i].Name = to[i]
		}
		text, e := Renamed(x.text, from, to)
		if e != api.OK {
			t.Fatalf("Renamed(%q, %q) = %d", x.text, to, e)
		}
		want := api.OK
		if x.kind == misfit {
			want = api.ErrKind
		}
		if v, e := EvalBound(renamed, text, x.rows[""], schemas, names, []api.Row{x.rows["p"], x.rows["q"]}); v != x.value || e != want {
			t.Fatalf("%q, renamed %q, of %v = %v, %d, not %v, %d", x.text, text, x.rows, v, e, x.value, want)
		}
		if back, e := Renamed(text, to, from); back != x.part.show() || e != api.OK {
			t.Fatalf("%q, renamed there and back, = %q, %d", x.text, back, e)
		}
	}
}

// Promise P4.1: texts that are expressions but for some bytes. All functions take them alike, and tell nothing beside an error.
func TestDamaged(t *testing.T) {
	d := newDraws(8)
	bytes := "ab1 0\"\\()-+*/%&=!<>,.~_A\x00\xff\n"
	for range 5000 {
		text := []byte(d.drawn(true).text)
		for range 1 + d.Intn(3) {
			at, c := d.Intn(len(text)+1), bytes[d.Intn(len(bytes))]
			switch {
			case at == len(text) || d.Intn(2) == 0:
				text = slices.Insert(text, at, c)
			case d.Intn(2) == 0:
				text[at] = c
			case len(text) > 1:
				text = slices.Delete(text, at, at+1)
			}
		}
		s := string(text)
		show, e := Show(s)
		if (e == api.OK) != Valid(s) || (show != "") != Valid(s) || e != api.OK && e != api.ErrSyntax {
			t.Fatalf("Show(%q) = %q, %d", s, show, e)
		}
		if e != api.OK {
			checkAll(t, s, e)
			continue
		}
		if again, e := Show(show); again != show || e != api.OK {
			t.Fatalf("Show(%q) = %q, %d", show, again, e)
		}
	}
}
