package calc

import (
	"strings"
	"testing"

	"tidewright/api"
)

// Promise 4.4.
func TestRenamed(t *testing.T) {
	for _, x := range []struct {
		text, from, to, want string
	}{
		{"a + p.a - b", "a b", "b a", "((b + p.a) - a)"}, {"a", "a", "a", "a"}, {"a", "", "", "a"}, {"a+1", "", "", "(a + 1)"}, {"a + b", "c", "d", "(a + b)"}, {"a = a", "a", "x_1", "(x_1 = x_1)"}, {"a = b", "a", "b", "(b = b)"},
		{"a + b + c", "a b c", "b c a", "((b + c) + a)"}, {"a + b", "a a", "x y", "(x + b)"}, {"a + b", "b a b", "x y z", "(y + x)"}, {"a", "a", "a234567890123456", "a234567890123456"}, {"ab + a_ + a", "a", "z", "((ab + a_) + z)"},
		// Names with a prefix, the prefixes and all that are no names stay.
		{"p.a + a.p + p", "p a", "x y", "((p.a + a.p) + x)"}, {`"a" & a`, "a", "b", `("a" & b)`}, {"if(a, null, len(b))", "a b", "b a", "if(b, null, len(a))"}, {"p.a", "a p", "b q", "p.a"}, {"1 + 2", "a", "b", "(1 + 2)"}, {"not not_", "not_", "nots", "(not nots)"},
		// A word of the language is an old name that does not stand there.
		{"if(a, b, null) and c", "if null and a", "x y z w", "(if(w, b, null) and c)"},
	} {
		if got, e := Renamed(x.text, strings.Fields(x.from), strings.Fields(x.to)); got != x.want || e != api.OK {
			t.Errorf("Renamed(%q, %q, %q) = %q, %d, not %q", x.text, x.from, x.to, got, e, x.want)
		}
	}
	for _, x := range shows() {
		if got, e := Renamed(x[0], []string{"zz"}, []string{"zy"}); got != x[1] || e != api.OK {
			t.Errorf("Renamed(%q) = %q, %d", x[0], got, e)
		}
	}
}

// Promise 4.4: errors in the order of text, number of names, names.
func TestRenamedErrors(t *testing.T) {
	checkRenamed := func(text string, from, to []string, want api.Errno) {
		t.Helper()
		if got, e := Renamed(text, from, to); got != "" || e != want {
			t.Errorf("Renamed(%.20q, %q, %q) = %.20q, %d, not %d", text, from, to, got, e, want)
		}
	}
	for _, name := range invalidNames() {
		checkRenamed("a", []string{name}, []string{"b"}, api.ErrInvalid)
		checkRenamed("a", []string{"b"}, []string{name}, api.ErrInvalid)
		checkRenamed("1", []string{"a", name}, []string{"b", "c"}, api.ErrInvalid)
		checkRenamed("1", []string{"a", "a"}, []string{"b", name}, api.ErrInvalid)
		checkRenamed("a", []string{name}, nil, api.ErrSize)
		checkRenamed("a", []string{"a"}, []string{"b", name}, api.ErrSize)
		checkRenamed("a +", []string{name}, []string{"b"}, api.ErrSyntax)
	}
	for _, w := range reserved() {
		checkRenamed("a", []string{"a"}, []string{w}, api.ErrInvalid)
		checkRenamed("1", []string{"a", "b"}, []string{"b", w}, api.ErrInvalid)
		checkRenamed("1", []string{w}, []string{w}, api.ErrInvalid)
	}
	checkRenamed("a", []string{"a"}, nil, api.ErrSize)
	checkRenamed("a", nil, []string{"a"}, api.ErrSize)
	checkRenamed("1", []string{"a", "b"}, []string{"a"}, api.ErrSize)
	checkRenamed("1 1", []string{"a", "b"}, []string{"a"}, api.ErrSyntax)
	checkRenamed(chain(41), []string{"a", "b"}, []string{"a"}, api.ErrLimit)
	checkRenamed(strings.Repeat("-", api.MaxText+1), []string{"a"}, nil, api.ErrLong)
}

// Promise 4.4.
func TestConstant(t *testing.T) {
	null := api.Value{}
	for _, x := range []struct {
		text string
		want api.Value
	}{
		{"1 + 2", num(3)}, {"0", num(0)}, {`""`, word("")}, {`"a" & text(5)`, word("a5")}, {"-7 / 2", num(-4)}, {"1 < 2 and 3 = 3", num(1)}, {"null", null}, {"1 / 0", null}, {"null & null", null}, {"if(1, null, null)", null}, {"null(null)", num(1)}, {"not null", null}, {"num(\"-012\")", num(-12)}, {" ( 5 ) ", num(5)}, {chain(40), num(-1)},
	} {
		if v, ok := Constant(x.text); v != x.want || !ok {
			t.Errorf("Constant(%q) = %v, %v", x.text, v, ok)
		}
	}
	for _, text := range append([]string{
		"a", "p.a", "1 + a", "if(1, 2, a)", "0 and p.x", "null(a)", `1 + "1"`, "not \"\"", `1 = "1"`, "len(1)", `if(1, 2, "")`, `-"1"`, `"a" and 1`, `least(1, "a")`,
	}, wrong()...) {
		if v, ok := Constant(text); v != null || ok {
			t.Errorf("Constant(%q) = %v, %v", text, v, ok)
		}
	}
}

// Promise 4.4.
func TestAnd(t *testing.T) {
	for _, x := range [][3]string{
		{"a or b", "s = null", "((a or b) and (s = null))"}, {"a", "b", "(a and b)"}, {"a and b", "c and d", "((a and b) and (c and d))"}, {" (a) ", "( (b)) ", "(a and b)"}, {"1", "s", "(1 and s)"}, {"not a", "-b", "((not a) and (- b))"}, {`")"`, `"("`, `(")" and "(")`}, {"if(a,b,c)", "p.x", "(if(a, b, c) and p.x)"}, {"null", "null", "(null and null)"},
	} {
		if got, e := And(x[0], x[1]); got != x[2] || e != api.OK {
			t.Errorf("And(%q, %q) = %q, %d, not %q", x[0], x[1], got, e, x[2])
		}
	}
	for _, x := range shows() {
		for _, y := range shows()[:20] {
			if got, e := And(x[0], y[0]); got != "("+x[1]+" and "+y[1]+")" || e != api.OK {
				t.Errorf("And(%q, %q) = %q, %d", x[0], y[0], got, e)
			}
		}
	}
}

// Promise 4.4: all errors of the first text come before those of the second one, then those of both together.
func TestAndErrors(t *testing.T) {
	long, wrong, deep := strings.Repeat(" ", api.MaxText)+"1", "a +", chain(41)
	blanks := func(length int) string { return "1" + strings.Repeat(" ", length-1) }
	for _, x := range []struct {
		a, b string
		want api.Errno
	}{
		{long, "1", api.ErrLong}, {"1", long, api.ErrLong}, {wrong, "1", api.ErrSyntax}, {"1", wrong, api.ErrSyntax}, {deep, "1", api.ErrLimit}, {"1", deep, api.ErrLimit},
		{long, wrong, api.ErrLong}, {wrong, long, api.ErrSyntax}, {deep, wrong, api.ErrLimit}, {wrong, deep, api.ErrSyntax}, {deep, long, api.ErrLimit}, {long, deep, api.ErrLong},
		// Neither is closed or opened by the other one.
		{"a) or (b", "1", api.ErrSyntax}, {"1", "a) or (b", api.ErrSyntax}, {"(a", "b)", api.ErrSyntax}, {"", "", api.ErrSyntax}, {"", "a", api.ErrSyntax}, {"a", "", api.ErrSyntax},
		// Both together.
		{chain(40), "1", api.ErrLimit}, {"1", chain(40), api.ErrLimit}, {chain(40), wrong, api.ErrSyntax},
		{blanks(api.MaxText - 9), "1", api.ErrLong}, {"1", blanks(api.MaxText - 9), api.ErrLong}, {blanks(api.MaxText), blanks(api.MaxText), api.ErrLong}, {blanks(40000), blanks(40000), api.ErrLong}, {blanks(40000), chain(40) + blanks(30000)[1:], api.ErrLong},
	} {
		if got, e := And(x.a, x.b); got != "" || e != x.want {
			t.Errorf("And(%.20q, %.20q) = %.20q, %d, not %d", x.a, x.b, got, e, x.want)
		}
	}
	for _, x := range [][3]string{
		{chain(39), "1", "(" + shown(chain(39)) + " and 1)"}, {"1", chain(39), "(1 and " + shown(chain(39)) + ")"}, {chain(39), chain(39), "(" + shown(chain(39)) + " and " + shown(chain(39)) + ")"}, {blanks(api.MaxText - 10), "1", "(1 and 1)"}, {"1", blanks(api.MaxText - 10), "(1 and 1)"},
	} {
		if got, e := And(x[0], x[1]); got != x[2] || e != api.OK {
			t.Errorf("And(%.20q, %.20q) = %q, %d", x[0], x[1], got, e)
		}
	}
}

func shown(text string) string {
	s, _ := Show(text)
	return s
}
