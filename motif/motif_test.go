package motif

import (
	"math"
	"slices"
	"strconv"
	"strings"
	"testing"

	"tidewright/api"
	"tidewright/row"
)

const (
	maxTime = 1000000000000
	end     = maxTime + 1
	maxSpan = 1000000000
	maxInt  = 1000000000000000
)

func num(n int) api.Value { return api.Value{Kind: api.VInt, N: n} }

func word(s string) api.Value { return api.Value{Kind: api.VText, S: s} }

// narrow is a schema of one number.
func narrow() api.Schema { return api.Schema{{Name: "v", Kind: api.VInt}} }

// wide is a schema of a number and a text.
func wide() api.Schema { return api.Schema{{Name: "v", Kind: api.VInt}, {Name: "s", Kind: api.VText}} }

func asRow(text string) api.Row {
	r, e := row.Parse(text)
	if e != api.OK {
		panic("no row: " + text)
	}
	return r
}

// pattern reads a pattern whose lines are separated by slashes.
func pattern(text string) api.Pattern {
	p, e := Parse(strings.ReplaceAll(text, " / ", "\n") + "\n")
	if e != api.OK {
		panic("no pattern: " + text)
	}
	return p
}

// event reads `TIME ROW`.
func event(text string) api.Event {
	time, values, _ := strings.Cut(text, " ")
	n, err := strconv.Atoi(time)
	if err != nil {
		panic("no event: " + text)
	}
	return api.Event{Time: n, Row: asRow(values)}
}

// events reads events `TIME ROW`, separated by semicolons.
func events(text string) []api.Event {
	var l []api.Event
	for x := range strings.SplitSeq(text, "; ") {
		l = append(l, event(x))
	}
	return l
}

// counted returns events with numbers, at the times 0, 1, ..
func counted(values ...int) []api.Event {
	var l []api.Event
	for i, v := range values {
		l = append(l, api.Event{Time: i, Row: api.Row{num(v)}})
	}
	return l
}

// indexes writes matches as `0 2, 2 3`.
func indexes(l [][]int) string {
	var text []string
	for _, match := range l {
		var words []string
		for _, i := range match {
			words = append(words, strconv.Itoa(i))
		}
		text = append(text, strings.Join(words, " "))
	}
	return strings.Join(text, ", ")
}

// matches checks the matches of a pattern, and that each of them is one.
func matches(t *testing.T, s api.Schema, p api.Pattern, l []api.Event, want string) {
	t.Helper()
	got, e := Matches(s, p, l)
	if indexes(got) != want || e != api.OK {
		t.Errorf("%q of %v: %q, %d, not %q", Format(p), l, indexes(got), e, want)
	}
	for _, match := range got {
		if !IsMatch(s, p, l, match) {
			t.Errorf("%q of %v: %v is no match", Format(p), l, match)
		}
	}
}

// Promise 8.1: the chapter's example.
func TestExample(t *testing.T) {
	p := pattern("within 10 skip 0 / next a {v > 5} / then b {v > a.v}")
	l := counted(6, 3, 8, 9)
	matches(t, narrow(), p, l, "0 2, 2 3")
	rows, e := Rows(narrow(), p, l)
	if len(rows) != 2 || row.Text(rows[0]) != "6,8" || row.Text(rows[1]) != "8,9" || e != api.OK {
		t.Errorf("Rows = %v, %d", rows, e)
	}
	s, e := Result(narrow(), p)
	if row.Format(s) != "a_v int, b_v int" || e != api.OK {
		t.Errorf("Result = %v, %d", s, e)
	}
}

// Promise 8.1: how stages follow.
func TestFollow(t *testing.T) {
	for _, x := range []struct{ stages, want string }{
		{"next a {v < 3} / next b {v > 4}", "0 1, 2 3"},
		{"next a {v < 3} / then b {v > 4}", "0 1, 2 3"},
		{"next a {v < 3} / any b {v > 4}", "0 1, 0 3, 0 4, 0 6, 2 3, 2 4, 2 6"},
		{"next a {v < 3} / next b {v > 5}", "2 3"},
		{"next a {v < 3} / then b {v > 5}", "0 3, 2 3"},
		{"next a {v < 3} / then b {v > a.v + 4}", "0 3, 2 6"},
		{"next a {v < 3} / any b {v > a.v + 4}", "0 3, 0 4, 0 6, 2 6"},
		{"next a {v < 3} / next b {v > a.v} / next c {v > b.v}", ""},
		{"next a {v < 3} / next b {v > a.v} / then c {v > b.v}", "0 1 3, 2 3 6"},
		{"next a {v < 3} / then b {v > a.v} / next c {v = b.v}", "2 3 4"},
		{"next a {v < 3} / any b {v > a.v} / next c {v = b.v}", "0 3 4, 2 3 4"},
		{"next a {v < 3} / any b {v > a.v + 1} / then c {v > a.v and v < b.v}", "0 1 2, 0 3 5, 0 4 5, 2 3 5, 2 4 5"},
		{"next a {v < 3} / any b {v > a.v + 1} / any c {v > a.v and v < b.v}", "0 1 2, 0 1 5, 0 3 5, 0 4 5, 2 3 5, 2 4 5"},
		{"next a {v < 3} / then b {v < 3} / any c {v - a.v = b.v}", "0 2 5"},
		{"next a {1} / next b {1} / next c {1} / next d {1} / next e {1} / next f {v > e.v}", "1 2 3 4 5 6"},
		{"next a {1} / any b {v > a.v} / any c {v > b.v} / any d {v > c.v} / any e {v > d.v}", ""},
		{"next a {1} / any b {v > a.v} / any c {v > b.v} / any d {v > c.v}", "0 1 3 6, 0 1 4 6, 0 2 3 6, 0 2 4 6, 0 2 5 6"},
	} {
		matches(t, narrow(), pattern("within 100 skip 0 / "+x.stages), counted(1, 5, 2, 6, 6, 3, 7), x.want)
	}
}

// Promise 8.1: what may not come between. What an Unless is true of may itself be the next one.
func TestUnless(t *testing.T) {
	for _, x := range []struct{ stages, want string }{
		{"next a {v < 3} / any b {v > 4} unless {v = 2}", "0 1, 2 3, 2 4, 2 6"},
		{"next a {v < 3} / any b {v > 4} unless {v = 6}", "0 1, 0 3, 2 3"},
		{"next a {v < 3} / any b {v > 4} unless {v > a.v + 4}", "0 1, 0 3, 2 3, 2 4, 2 6"},
		{"next a {v < 3} / then b {v = 6} unless {v > 5 - a.v}", "2 3"},
		{"next a {v < 3} / then b {v = 6} unless {v > 6}", "0 3, 2 3"},
		{"next a {v < 3} / then b {v = 7} unless {v < a.v}", "0 6, 2 6"},
		{"next a {v < 3} / then b {v = 7} unless {v < a.v + 2}", ""},
		{"next a {v < 3} / next b {v = 5} unless {1}", "0 1"},
		{"next a {v < 3} / any b {v = 5} unless {1}", "0 1"},
		{"next a {v < 3} / any b {v = 6} unless {-1}", "2 3"},
		{"next a {v < 3} / any b {v = 6} unless {0}", "0 3, 0 4, 2 3, 2 4"},
		{"next a {v < 3} / any b {v = 6} unless {null}", "0 3, 0 4, 2 3, 2 4"},
		{"next a {v < 3} / any b {v = 6} unless {v/0}", "0 3, 0 4, 2 3, 2 4"},
		{"next a {v < 3} / any b {v > 4} unless {v = 2} / any c {v > b.v} unless {v = b.v - a.v - 1}", "0 1 3, 0 1 4"},
		{"next a {v < 3} / any b {v > 4} / any c {v > b.v} unless {v = b.v/2}", ""},
	} {
		matches(t, narrow(), pattern("within 100 skip 0 / "+x.stages), counted(1, 5, 2, 6, 6, 3, 7), x.want)
	}
}

// Promise 8.1: the last event comes at most so much later than the first one, whatever lies between.
func TestWithin(t *testing.T) {
	l := events("0 1; 5 2; 5 3; 10 4; 11 5")
	for _, x := range []struct {
		within int
		stages string
		want   string
	}{
		{0, "next a {1} / any b {1}", "1 2"},
		{4, "next a {1} / any b {1}", "1 2, 3 4"},
		{5, "next a {1} / any b {1}", "0 1, 0 2, 1 2, 1 3, 2 3, 3 4"},
		{6, "next a {1} / any b {1}", "0 1, 0 2, 1 2, 1 3, 1 4, 2 3, 2 4, 3 4"},
		{10, "next a {1} / any b {1} / any c {1}", "0 1 2, 0 1 3, 0 2 3, 1 2 3, 1 2 4, 1 3 4, 2 3 4"},
		{9, "next a {v = 1} / any b {1} / any c {1}", "0 1 2"},
		{10, "next a {v = 1} / then b {v = 4}", "0 3"},
		{9, "next a {v = 1} / then b {v = 4}", ""},
		{11, "next a {v = 1} / next b {1} / then c {v > 4}", "0 1 4"},
		{10, "next a {v = 1} / next b {1} / then c {v > 4}", ""},
	} {
		p := pattern("within 7 skip 0 / " + x.stages)
		p.Within = x.within
		matches(t, narrow(), p, l, x.want)
	}
	p := pattern("within 1000000000 skip 0 / next a {1} / any b {1}")
	matches(t, narrow(), p, events("-1000000000000 1; 0 1; 1000000000 1; 1000000001 1; 999000000000 1; 1000000000000 1"), "1 2, 2 3, 4 5")
}

// Promise 8.1: names without a prefix are of the event that is looked at; what is null is not true.
func TestConditions(t *testing.T) {
	l := events(`0 1,"x"; 1 ~,"y"; 2 3,~; 3 -4,"x"; 4 ~,~`)
	for _, x := range []struct{ stages, want string }{
		{`next a {v}`, "0, 2, 3"},
		{`next a {not v}`, ""},
		{`next a {null(v)}`, "1, 4"},
		{`next a {v or 1}`, "0, 1, 2, 3, 4"},
		{`next a {s = "x"}`, "0, 3"},
		{`next a {s != "x"}`, "1"},
		{`next a {null}`, ""},
		{`next a {if(1, null, null)}`, ""},
		{`next a {1} / next b {null}`, ""},
		{`next a {1} / then b {s = a.s}`, "0 3"},
		{`next a {1} / any b {null(s) and null(a.v)}`, "1 2, 1 4"},
		{`next a {1} / any b {v + a.v}`, "0 2, 0 3, 2 3"},
		{`next v {v = 1} / any s {s = v.s and v < v.v}`, "0 3"},
		{`next if {v} / any not {v < 0}`, "0 3, 2 3"}, // these names are no names in expressions
	} {
		matches(t, wide(), pattern("within 100 skip 0 / "+x.stages), l, x.want)
	}
	// Only the row counts, not its time; the same rows tell the same each time.
	matches(t, narrow(), pattern("within 100 skip 0 / next a {v = 1} / any b {v = a.v} / next c {v > b.v}"), counted(1, 1, 2, 1, 2), "0 1 2, 0 3 4, 1 3 4")
}

// Promise 8.1: what is left out.
func TestSkip(t *testing.T) {
	for _, x := range []struct {
		stages string
		want   [3]string
	}{
		{"next a {1} / any b {v > a.v}", [3]string{"0 1, 0 3, 0 4, 0 5, 1 3, 1 4, 1 5, 2 3, 2 4, 2 5, 3 4, 3 5", "0 1, 2 3", "0 1, 1 3, 2 3, 3 4"}},
		{"next a {1} / then b {v > a.v + 2}", [3]string{"0 3, 1 3, 2 3, 3 4", "0 3", "0 3, 1 3, 2 3, 3 4"}},
		{"next a {v < 6} / any b {v > a.v + 2}", [3]string{"0 3, 0 4, 0 5, 1 3, 1 4, 1 5, 2 3, 2 4, 2 5, 3 4, 3 5", "0 3", "0 3, 1 3, 2 3, 3 4"}},
		{"next a {1} / next b {1}", [3]string{"0 1, 1 2, 2 3, 3 4, 4 5", "0 1, 2 3, 4 5", "0 1, 1 2, 2 3, 3 4, 4 5"}},
		{"next a {1} / any b {v > a.v} / next c {v > a.v}", [3]string{"0 3 4, 0 4 5, 1 3 4, 1 4 5, 2 3 4, 2 4 5, 3 4 5", "0 3 4", "0 3 4, 1 3 4, 2 3 4, 3 4 5"}},
		{"next a {v > 1}", [3]string{"1, 3, 4, 5", "1, 3, 4, 5", "1, 3, 4, 5"}},
		{"next a {v > 10}", [3]string{"", "", ""}},
	} {
		for skip, want := range x.want {
			p := pattern("within 100 skip 0 / " + x.stages)
			p.Skip = skip
			matches(t, narrow(), p, counted(1, 2, 1, 5, 9, 8), want)
		}
	}
	// A match that is left out leaves nothing out itself: 1 3 does not keep 2 4 away.
	p := pattern("within 100 skip 1 / next a {v < 4} / then b {v = a.v + 3}")
	matches(t, narrow(), p, counted(1, 2, 4, 5, 3, 6), "0 2, 4 5")
	p.Skip = 0
	matches(t, narrow(), p, counted(1, 2, 4, 5, 3, 6), "0 2, 1 3, 4 5")
}

// Promise 8.1: by times, then by rows, then as they stand; matches are ordered by it, and told by where they stand.
func TestOrder(t *testing.T) {
	for _, x := range []struct{ events, want string }{
		{"3 1; 2 1; 1 1", "2 1 0"},
		{"0 1; 0 1; 0 1", "0 1 2"},
		{"0 2; 0 ~; 0 1; 0 -1; 0 ~", "1 4 3 2 0"},
		{"5 1; 0 2; 5 1; 0 1; 5 0; 0 2", "3 1 5 4 0 2"},
		{"1000000000000 0; -1000000000000 9", "1 0"},
	} {
		got, e := Order(narrow(), events(x.events))
		if indexes([][]int{got}) != x.want || e != api.OK {
			t.Errorf("Order of %q = %v, %d", x.events, got, e)
		}
	}
	got, e := Order(wide(), events(`0 1,"b"; 0 1,~; 0 1,"a"; 0 ~,"z"`))
	if indexes([][]int{got}) != "3 1 2 0" || e != api.OK {
		t.Errorf("Order = %v, %d", got, e)
	}
	if l, e := Order(narrow(), nil); len(l) > 0 || e != api.OK {
		t.Errorf("Order of nothing = %v, %d", l, e)
	}
	// Many equal ones, among which a sort that is not stable would change something.
	var many []api.Event
	var want []int
	for i := range 40 {
		many = append(many, event("7 "+strconv.Itoa(i%2)))
	}
	for i := range 40 {
		want = append(want, i*2%40+i/20)
	}
	if l, e := Order(narrow(), many); !slices.Equal(l, want) || e != api.OK {
		t.Errorf("Order = %v, %d", l, e)
	}
	p := pattern("within 100 skip 0 / next a {1} / any b {v > a.v}")
	matches(t, narrow(), p, events("9 3; 2 2; 0 1; 2 2; 2 5"), "2 1, 2 3, 2 4, 2 0, 1 4, 1 0, 3 4, 3 0")
	p.Skip = 1
	matches(t, narrow(), p, events("9 3; 2 2; 0 1; 2 2; 2 5"), "2 1, 3 4")
}

// rises returns n events of which each of the first half is below each of the other one, and some more if extra.
func rises(extra bool) []api.Event {
	l := counted(slices.Repeat([]int{0}, 40)...)
	for i := range 20 {
		l[20+i].Row[0].N = 1
	}
	if extra { // only the 0 behind it is above it, too
		l[18].Row[0].N = -1
	}
	return l
}

// Promise 8.1: no more than MaxRows matches, also where they are left out.
func TestTooMany(t *testing.T) {
	for skip := range 3 {
		p := pattern("within 100 skip 0 / next a {1} / any b {v > a.v}")
		p.Skip = skip
		l, e := Matches(narrow(), p, rises(false))
		rows, f := Rows(narrow(), p, rises(false))
		if want := []int{400, 1, 20}[skip]; len(l) != want || len(rows) != want || e != api.OK || f != api.OK {
			t.Errorf("skip %d: %d, %d, %d, %d", skip, len(l), e, len(rows), f)
		}
		l, e = Matches(narrow(), p, rises(true))
		rows, f = Rows(narrow(), p, rises(true))
		if len(l) > 0 || e != api.ErrLimit || len(rows) > 0 || f != api.ErrLimit {
			t.Errorf("skip %d: %d, %d, %d, %d", skip, len(l), e, len(rows), f)
		}
		if !IsMatch(narrow(), p, rises(true), []int{18, 19}) {
			t.Error("a match of too many is one")
		}
	}
	// Where all follows all, it does not take long to see that there are too many, or that there are none.
	p := pattern("within 100 skip 1 / next a {1} / any b {1} / any c {1} / any d {1} / any e {1} / any f {1}")
	if l, e := Matches(narrow(), p, rises(false)); len(l) > 0 || e != api.ErrLimit {
		t.Errorf("%d, %d", len(l), e)
	}
	p.Stages[5].Cond = "v > a.v + 2"
	matches(t, narrow(), p, rises(true), "")
}

// Promises 8.1 and P8.2: IsMatch.
func TestIsMatch(t *testing.T) {
	l := events("3 9; 2 8; 1 3; 0 6")
	for _, x := range []struct {
		pattern string
		at      []int
		want    bool
	}{
		{"within 10 skip 0 / next a {v > 5} / any b {v > a.v}", []int{3, 1}, true},
		{"within 10 skip 0 / next a {v > 5} / any b {v > a.v}", []int{3, 0}, true},
		{"within 10 skip 1 / next a {v > 5} / any b {v > a.v}", []int{1, 0}, true},
		{"within 10 skip 2 / next a {v > 5} / any b {v > a.v}", []int{3, 0}, true},
		{"within 10 skip 0 / next a {v > 5} / any b {v > a.v}", []int{1, 3}, false},
		{"within 10 skip 0 / next a {v > 5} / any b {v > a.v}", []int{2, 0}, false},
		{"within 10 skip 0 / next a {v > 5} / any b {v > a.v}", []int{3, 2}, false},
		{"within 10 skip 0 / next a {v > 5} / any b {1}", []int{1, 1}, false},
		{"within 10 skip 0 / next a {v > 5} / any b {v > a.v}", []int{3, 1, 0}, false},
		{"within 10 skip 0 / next a {v > 5} / any b {v > a.v}", []int{3}, false},
		{"within 10 skip 0 / next a {v > 5} / any b {v > a.v}", nil, false},
		{"within 10 skip 0 / next a {v > 5} / any b {v > a.v}", []int{3, 4}, false},
		{"within 10 skip 0 / next a {v > 5} / any b {v > a.v}", []int{3, -1}, false},
		{"within 10 skip 0 / next a {v > 5} / any b {v > a.v}", []int{-1, 0}, false},
		{"within 10 skip 0 / next a {v > 5} / any b {v > a.v}", []int{4, 0}, false},
		{"within 10 skip 0 / next a {v > 5} / any b {v > a.v}", []int{math.MinInt, math.MaxInt}, false},
		{"within 10 skip 0 / next a {v > 5} / then b {v > a.v}", []int{3, 0}, false},
		{"within 10 skip 0 / next a {v > 5} / then b {v > a.v}", []int{3, 1}, true},
		{"within 10 skip 0 / next a {v > 5} / next b {v > a.v}", []int{3, 1}, false},
		{"within 10 skip 0 / next a {v > 5} / next b {v > a.v}", []int{1, 0}, true},
		{"within 10 skip 0 / next a {v > 5} / any b {v > a.v} unless {v < 4}", []int{3, 1}, false},
		{"within 2 skip 0 / next a {v > 5} / any b {v > a.v}", []int{3, 1}, true},
		{"within 1 skip 0 / next a {v > 5} / any b {v > a.v}", []int{3, 1}, false},
		{"within 0 skip 0 / next a {v > 5}", []int{0}, true},
		{"within 0 skip 0 / next a {v > 5}", []int{2}, false},
		{"within 3 skip 0 / next a {v > 5} / any b {1} / any c {v > a.v}", []int{3, 2, 1}, true},
		{"within 3 skip 0 / next a {v > 5} / any b {1} / any c {v > a.v}", []int{3, 1, 2}, false},
	} {
		if got := IsMatch(narrow(), pattern(x.pattern), l, x.at); got != x.want {
			t.Errorf("IsMatch(%q, %v) = %t", x.pattern, x.at, got)
		}
	}
}

// Promise 8.1: Rows.
func TestRows(t *testing.T) {
	l := events(`5 1,"x"; 3 4,~; 4 ~,"y"; 0 1,"a"`)
	rows, e := Rows(wide(), pattern(`within 100 skip 0 / next a {v = 1} / then b {null(s) or null(v)} / any c {1}`), l)
	want := []string{`1,"a",4,~,~,"y"`, `1,"a",4,~,1,"x"`}
	if len(rows) != 2 || row.Text(rows[0]) != want[0] || row.Text(rows[1]) != want[1] || e != api.OK {
		t.Errorf("Rows = %v, %d", rows, e)
	}
	rows, e = Rows(wide(), pattern(`within 100 skip 1 / next a {1} / any b {1}`), l)
	want = []string{`1,"a",4,~`, `~,"y",1,"x"`}
	if len(rows) != 2 || row.Text(rows[0]) != want[0] || row.Text(rows[1]) != want[1] || e != api.OK {
		t.Errorf("Rows = %v, %d", rows, e)
	}
	if rows, e = Rows(wide(), pattern("within 0 skip 0 / next a {0}"), l); len(rows) > 0 || e != api.OK {
		t.Errorf("no rows: %v, %d", rows, e)
	}
}

// Promise 8.1: Result is the schema of what Rows returns.
func TestResult(t *testing.T) {
	for _, x := range []struct {
		schema, stages, want string
		e                    api.Errno
	}{
		{"v int, s text", "next a {1} / any b_2 {1} / any c {1}", "a_v int, a_s text, b_2_v int, b_2_s text, c_v int, c_s text", api.OK},
		{"v int", "next a {1}", "a_v int", api.OK},
		{"c text, d int, e text, f int", "next a {1} / next b {1}", "a_c text, a_d int, a_e text, a_f int, b_c text, b_d int, b_e text, b_f int", api.OK},
		{"abcdefgh int", "next abcdefg {1}", "abcdefg_abcdefgh int", api.OK},
		{"abcdefgh int", "next abcdefgh {1}", "", api.ErrLimit},
		{"v int, abcdefghijklmnop int", "next a {1} / next b {1}", "", api.ErrLimit},
		{"v int", "next a {1} / next abcdefghijklmno {1}", "", api.ErrLimit},
		{"b_c int, c int", "next a {1} / next a_b {1}", "", api.ErrDuplicate},
		{"b_c int, c int", "next a_b {1} / next c {1} / next a {1}", "", api.ErrDuplicate},
		{"b_c int, c int, abcdefghijklmnop int", "next a {1} / next a_b {1}", "", api.ErrLimit},
		{"c text, d int, e text", "next a {1} / next b {1} / next c {1}", "", api.ErrSize},
		{"c text, d int", "next a {1} / next b {1} / next c {1} / next d {1} / next e {1}", "", api.ErrSize},
		{"b_c int, c int, abcdefghijklmnop int", "next a {1} / next a_b {1} / next b {1}", "", api.ErrSize},
	} {
		s, e := row.ParseSchema(x.schema)
		p := pattern("within 10 skip 0 / " + x.stages)
		got, f := Result(s, p)
		if row.Format(got) != x.want || f != x.e || f != api.OK && len(got) > 0 || e != api.OK {
			t.Errorf("Result(%q, %q) = %q, %d", x.schema, x.stages, row.Format(got), f)
		}
		// Rows asks for the number of values alone, and also where there are no events.
		if x.e != api.ErrSize {
			x.e = api.OK
		}
		if l, e := Rows(s, p, nil); len(l) > 0 || e != x.e {
			t.Errorf("Rows(%q, %q) = %v, %d", x.schema, x.stages, l, e)
		}
	}
}
