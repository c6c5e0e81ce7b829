package calc

import (
	"slices"
	"strings"
	"testing"

	"tidewright/api"
)

// Promise P4.1: arguments stay as they are, also behind their ends, and results are new.
func TestNew(t *testing.T) {
	spareSchema := append(schema(), api.Column{Name: "z", Kind: 9})
	spareRow := api.Row{num(1), num(2), word("x"), word("y"), num(99)}
	schemas := []api.Schema{slices.Clone(spareSchema)[:4], nil}
	rows := []api.Row{slices.Clone(spareRow)[:4], nil}
	names := []string{"p", "zz"}
	from, to := []string{"a", "b", "A"}, []string{"b", "a", "if"}
	same := func() bool {
		return slices.Equal(spareSchema, append(schema(), api.Column{Name: "z", Kind: 9})) && slices.Equal(spareRow, api.Row{num(1), num(2), word("x"), word("y"), num(99)}) &&
			slices.Equal(schemas[0][:5], spareSchema) && schemas[1] == nil && slices.Equal(rows[0][:5], spareRow) && rows[1] == nil && slices.Equal(names, []string{"p", "zz"}) &&
			slices.Equal(from, []string{"a", "b", "A"}) && slices.Equal(to, []string{"b", "a", "if"})
	}
	for _, text := range []string{"a", "b + a * 2", "if(p.a, s, t & p.t)", "p.s = s", "c", "s + a", "a +", "null"} {
		for range 2 {
			Kind(spareSchema[:4], text)
			Eval(spareSchema[:4], text, spareRow[:4])
			Truth(spareSchema[:4], text, spareRow[:4])
			Bound(spareSchema[:4], text, schemas[:1], names[:1])
			EvalBound(spareSchema[:4], text, spareRow[:4], schemas[:1], names[:1], rows[:1])
			EvalBound(spareSchema[:4], text, spareRow[:4], schemas[:1], names, rows[:1])
			Renamed(text, from[:2], to[:2])
			Renamed(text, from, to)
			if !same() {
				t.Fatalf("%q changes arguments", text)
			}
		}
	}
	one, _ := Names("c + b + a + b")
	two, _ := Names("c + b + a + b")
	for i := range one[:cap(one)] {
		one[:cap(one)][i] = "x"
	}
	if !slices.Equal(two, []string{"a", "b", "c"}) {
		t.Errorf("names are now %q", two)
	}
}

// Promise P4.1: the same call tells the same again, whatever was called in between.
func TestAgain(t *testing.T) {
	r := api.Row{num(7), {}, word("xy"), {}}
	texts := []string{"a +", "c", "a + s", "if(b, 1, 2)", "s & t", "1 / 0"}
	for _, x := range shows() {
		texts = append(texts, x[0])
	}
	type told struct {
		show string
		e    api.Errno
		v    api.Value
		f    api.Errno
	}
	ask := func(text string) told {
		show, e := Show(text)
		v, f := Eval(schema(), text, r)
		return told{show, e, v, f}
	}
	var first []told
	for _, text := range texts {
		first = append(first, ask(text))
	}
	for i := len(texts) - 1; i >= 0; i-- {
		if got := ask(texts[i]); got != first[i] {
			t.Errorf("%q: %v, then %v", texts[i], first[i], got)
		}
	}
}

// Promise P4.1: texts of the greatest length, nested in all ways, end in time.
func TestLongTexts(t *testing.T) {
	full := func(before, inner, after string) string {
		n := (api.MaxText - len(inner)) / (len(before) + len(after))
		return strings.Repeat(before, n) + inner + strings.Repeat(after, n)
	}
	for _, x := range []struct {
		text string
		want api.Errno
	}{
		{full("(", "1", ")"), api.OK}, {full("(", "a and s", ")"), api.OK}, {full(" (", "1", ") "), api.OK}, {full(" ", "1", " "), api.OK}, {full(" ", `"a"`, ""), api.OK},
		{full("(", "1", ""), api.ErrSyntax}, {full("", "1", ")"), api.ErrSyntax}, {full("(", "", ")"), api.ErrSyntax}, {full("-", "1", ""), api.ErrLimit}, {full("-", "", ""), api.ErrSyntax}, {full("not ", "a", ""), api.ErrLimit}, {full("1 + ", "1", ""), api.ErrLimit}, {full("1 + ", "", ""), api.ErrSyntax}, {full("1 or ", "1", ""), api.ErrLimit},
		{full("(1 + ", "1", ")"), api.ErrLimit}, {full("len(", "a", ")"), api.ErrLimit}, {full("len(", "a", ""), api.ErrSyntax}, {full("if(1,2,", "a", ")"), api.ErrLimit}, {full("if(", "a", ",1,2)"), api.ErrLimit}, {full("a=(", "1", ")"), api.ErrLimit}, {full("a=", "1", ""), api.ErrSyntax}, {full("a.b ", "", ""), api.ErrSyntax}, {full("a", "", ""), api.ErrSyntax}, {full("1", "", ""), api.ErrSyntax}, {full("0", "", ""), api.ErrSyntax}, {full(`"`, "", ""), api.ErrSyntax}, {full(`\`, "", ""), api.ErrSyntax}, {full(`"\"`, "", ""), api.ErrSyntax}, {`"` + full(`\x00`, "", ""), api.ErrSyntax}, {full("\x00", "", ""), api.ErrSyntax},
	} {
		if len(x.text) > api.MaxText {
			x.text = x.text[:api.MaxText]
		}
		if x.want == api.OK {
			if s, e := Show(x.text); s == "" || e != api.OK {
				t.Errorf("Show of %.20q.. = %.20q, %d", x.text, s, e)
			}
			continue
		}
		checkAll(t, x.text, x.want)
	}
}
