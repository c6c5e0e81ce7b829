package fold

import (
	"math"
	"slices"
	"strings"
	"testing"

	"tidewright/api"
	"tidewright/bag"
	"tidewright/row"
)

func num(n int) api.Value { return api.Value{Kind: api.VInt, N: n} }

func text(s string) api.Value { return api.Value{Kind: api.VText, S: s} }

// asRow returns the row of a text.
func asRow(s string) api.Row {
	r, e := row.Parse(s)
	if e != api.OK {
		panic("no row: " + s)
	}
	return r
}

// of returns the bag of lines between semicolons, in their order: `2 1,"a"; -1 5`.
func of(s string) api.Bag {
	if s == "" {
		return nil
	}
	b, _, e := bag.Parse(strings.ReplaceAll(s, "; ", "\n") + "\n")
	if e != api.OK {
		panic("no bag: " + s)
	}
	return b
}

// many returns a bag of the rows of so many numbers from first on, each n times.
func many(first, count, n int) api.Bag {
	b := make(api.Bag, count)
	for i := range b {
		b[i] = api.Item{Row: api.Row{num(first + i)}, N: n}
	}
	return b
}

// kinds are all of aggregates, in the order of their numbers.
func kinds() []int {
	return []int{api.ACount, api.AValues, api.ASum, api.ALeast, api.AGreatest, api.AMean, api.ADistinct}
}

// every returns a list of all kinds, of one column where they have one.
func every(column int) []api.Agg {
	var l []api.Agg
	for _, kind := range kinds() {
		l = append(l, api.Agg{Kind: kind, Column: column})
	}
	l[0].Column = 0
	return l
}

// counts is a list that is valid for any number of columns.
func counts() []api.Agg { return []api.Agg{{Kind: api.ACount}} }

// begin returns an accumulator with the rows of a bag.
func begin(t *testing.T, l []api.Agg, n int, b api.Bag) *Acc {
	t.Helper()
	a, e := New(l, n)
	if a == nil || e != api.OK {
		t.Fatalf("New(%v, %d) = %v, %d", l, n, a, e)
	}
	for _, item := range b {
		if e := a.Add(item.Row, item.N); e != api.OK {
			t.Fatalf("Add(%v, %d) = %d", item.Row, item.N, e)
		}
	}
	return a
}

// checkAcc checks what rows an accumulator has, by all that tells of them.
func checkAcc(t *testing.T, what string, a *Acc, want api.Bag) {
	t.Helper()
	if got := a.Bag(); !bag.Same(got, want) {
		t.Errorf("%s: Bag = %q, not %q", what, bag.Format(got), bag.Format(want))
	}
	if got := a.Rows(); got != bag.Total(want) {
		t.Errorf("%s: Rows = %d, not %d", what, got, bag.Total(want))
	}
	if got := a.Empty(); got != (len(want) == 0) {
		t.Errorf("%s: Empty = %v of %q", what, got, bag.Format(want))
	}
	_, e := a.Result()
	if below := !bag.Whole(want); (e == api.ErrState) != below || !below && e != api.OK {
		t.Errorf("%s: Result of %q has the error %d", what, bag.Format(want), e)
	}
}

// checkRow checks that a row is that of a text, or that there is none and the error is that told.
func checkRow(t *testing.T, what string, got api.Row, e api.Errno, want string, wantE api.Errno) {
	t.Helper()
	if !slices.Equal(got, asRow(want)) || e != wantE {
		t.Errorf("%s = %q, %d, not %q, %d", what, row.Text(got), e, want, wantE)
	}
}

// invalidRows are rows of one value that are none.
func invalidRows() []api.Row {
	return []api.Row{
		{num(api.MaxInt + 1)}, {num(-api.MaxInt - 1)}, {num(math.MinInt)}, {text(strings.Repeat("x", api.MaxString+1))},
		{{Kind: 3}}, {{Kind: -1}}, {{N: 1}}, {{S: "x"}}, {{Kind: api.VInt, S: "x"}}, {{Kind: api.VText, N: 1}},
	}
}

// invalidLists are lists that are none for two columns.
func invalidLists() [][]api.Agg {
	sum := api.Agg{Kind: api.ASum, Column: 1}
	return [][]api.Agg{
		nil, {}, slices.Repeat([]api.Agg{sum}, api.MaxColumns+1), slices.Repeat(counts(), 100000),
		{{Kind: api.ASum, Column: 2}}, {{Kind: api.ACount, Column: 1}}, {{}}, {{Kind: 8}}, {sum, {Kind: -1}, sum}, {sum, sum, {Kind: api.ALeast, Column: -1}},
	}
}

// Promise 5.1.
func TestValidAgg(t *testing.T) {
	columns := []int{math.MinInt, -1, 0, 1, 2, 7, 8, 100, math.MaxInt}
	numbers := []int{math.MinInt, -1, 0, 1, 2, 8, 9, 101, math.MaxInt}
	for _, column := range columns {
		for _, n := range numbers {
			for _, kind := range kinds() {
				want := 0 <= column && column < n // n itself is not asked
				if kind == api.ACount {
					want = column == 0
				}
				if got := ValidAgg(api.Agg{Kind: kind, Column: column}, n); got != want {
					t.Errorf("ValidAgg of kind %d of column %d of %d = %v", kind, column, n, got)
				}
			}
			for _, kind := range []int{math.MinInt, -1, 0, 8, 9, math.MaxInt} {
				if ValidAgg(api.Agg{Kind: kind, Column: column}, n) {
					t.Errorf("an aggregate of kind %d is valid", kind)
				}
			}
		}
	}
}

// Promise 5.1.
func TestValid(t *testing.T) {
	for n := 1; n <= api.MaxColumns; n++ {
		l := slices.Repeat([]api.Agg{{Kind: api.AMean, Column: 1}}, n)
		if !Valid(l, 2) || Valid(l, 1) || Valid(append(l, api.Agg{Kind: api.ACount, Column: 1}), 2) {
			t.Errorf("Valid of %d aggregates", n)
		}
	}
	if !Valid(counts(), 0) || !Valid(counts(), -1) || !Valid(counts(), 9) || !Valid(every(8), 9) || Valid(every(0), 0) {
		t.Error("Valid asks more or less than Kind and Column")
	}
	for i, l := range invalidLists() {
		if Valid(l, 2) {
			t.Errorf("list %d is valid", i)
		}
	}
}

// Promise 5.1: an accumulator without rows, or ErrInvalid, then ErrRange.
func TestMade(t *testing.T) {
	for n := range api.MaxColumns + 1 {
		checkAcc(t, "an accumulator of counts", begin(t, counts(), n, nil), nil)
		if n > 0 {
			checkAcc(t, "an accumulator of all kinds", begin(t, every(n-1), n, nil), nil)
		}
	}
	check := func(l []api.Agg, n int, want api.Errno) {
		t.Helper()
		if a, e := New(l, n); a != nil || e != want {
			t.Errorf("New(%v, %d) = %v, %d, not %d", l, n, a, e, want)
		}
	}
	for _, l := range invalidLists() {
		check(l, 2, api.ErrInvalid)
	}
	for _, n := range []int{math.MinInt, -1, 9, 10, math.MaxInt} {
		check(counts(), n, api.ErrRange)
		check(nil, n, api.ErrInvalid)
		check([]api.Agg{{Kind: api.ACount, Column: 1}}, n, api.ErrInvalid)
	}
	check(every(0), 0, api.ErrInvalid)
	check(every(0), -1, api.ErrInvalid)
	check(every(8), 9, api.ErrRange)
	check(every(9), 9, api.ErrInvalid)
}

// Promise 5.1.
func TestAdd(t *testing.T) {
	a := begin(t, every(1), 2, nil)
	for _, x := range []struct {
		row  string
		n    int
		want string
	}{
		{"2,\"a\"", 3, `3 2,"a"`}, {"10,\"a\"", 1, `3 2,"a"; 1 10,"a"`}, {"~,1", 2, `2 ~,1; 3 2,"a"; 1 10,"a"`}, {"2,\"a\"", -1, `2 ~,1; 2 2,"a"; 1 10,"a"`}, {"2,~", -5, `2 ~,1; -5 2,~; 2 2,"a"; 1 10,"a"`},
		{"~,1", -2, `-5 2,~; 2 2,"a"; 1 10,"a"`}, {"2,~", 5, `2 2,"a"; 1 10,"a"`}, {"2,\"a\"", -3, `-1 2,"a"; 1 10,"a"`}, {"10,\"a\"", -2, `-1 2,"a"; -1 10,"a"`}, {"2,\"a\"", 1, `-1 10,"a"`}, {"10,\"a\"", 1, ""}, {"5,5", 1, "1 5,5"},
		{"5,5", api.MaxCount - 1, "1000000 5,5"}, {"5,5", -api.MaxCount, ""}, {"5,5", -api.MaxCount, "-1000000 5,5"}, {"5,5", api.MaxCount, ""},
	} {
		if e := a.Add(asRow(x.row), x.n); e != api.OK {
			t.Fatalf("Add(%s, %d) = %d", x.row, x.n, e)
		}
		checkAcc(t, "Add of "+x.row, a, of(x.want))
	}
	none := begin(t, counts(), 0, of("3 "))
	checkAcc(t, "rows without values", none, of("3 "))
}

// Promise 5.1: errors in their order; nothing changes then.
func TestAddErrors(t *testing.T) {
	rows := of("5 1; 2 2")
	a := begin(t, every(0), 1, rows)
	check := func(r api.Row, n int, want api.Errno) {
		t.Helper()
		if e := a.Add(r, n); e != want {
			t.Errorf("Add(%v, %d) = %d, not %d", r, n, e, want)
		}
		checkAcc(t, "after an error", a, rows)
	}
	outs := []int{0, api.MaxCount + 1, -api.MaxCount - 1, math.MaxInt, math.MinInt, math.MinInt + 1}
	others := append(invalidRows(), nil, api.Row{}, asRow("1,1"), make(api.Row, 8), make(api.Row, 9))
	for _, r := range others {
		check(r, 1, api.ErrInvalid)
		check(r, -api.MaxCount, api.ErrInvalid)
		for _, n := range outs {
			check(r, n, api.ErrInvalid)
		}
	}
	for _, n := range outs {
		check(asRow("1"), n, api.ErrRange)
		check(asRow("7"), n, api.ErrRange)
	}
	check(asRow("1"), api.MaxCount-4, api.ErrLimit)
	check(asRow("1"), api.MaxCount, api.ErrLimit)
	if e := begin(t, counts(), 0, nil).Add(asRow("1"), 1); e != api.ErrInvalid {
		t.Errorf("Add of a value where there are no columns = %d", e)
	}
}

// Promise 5.1: rows that are no valid bag any more, either way.
func TestAddLimit(t *testing.T) {
	for _, n := range []int{1, -1} {
		a := begin(t, every(0), 1, of("5 1"))
		a.Add(asRow("1"), -5)
		a.Add(asRow("1"), n*api.MaxCount)
		if e := a.Add(asRow("1"), n); e != api.ErrLimit {
			t.Errorf("Add to %d times = %d", n*api.MaxCount, e)
		}
		checkAcc(t, "at the limit of a count", a, api.Bag{{Row: asRow("1"), N: n * api.MaxCount}})
		full := many(0, api.MaxRows, n)
		a = begin(t, every(0), 1, full)
		for _, r := range []string{"-1", "400", "~", "\"\""} {
			if e := a.Add(asRow(r), 1); e != api.ErrLimit {
				t.Errorf("Add of one row too many = %d", e)
			}
			checkAcc(t, "at the limit of rows", a, full)
		}
		if e := a.Add(asRow("200"), 3*n); e != api.OK || bag.Count(a.Bag(), asRow("200")) != 4*n {
			t.Errorf("Add of a row that is there = %d", e)
		}
		if e := a.Add(asRow("200"), -4*n); e != api.OK {
			t.Errorf("a row taken out = %d", e)
		}
		if e := a.Add(asRow("-1"), n); e != api.OK || len(a.Bag()) != api.MaxRows {
			t.Errorf("Add of a row in place of one that went = %d", e)
		}
	}
}

// Promise 5.1.
func TestMerge(t *testing.T) {
	for _, x := range []struct{ a, b, want string }{
		{"", "", ""}, {"", "2 1", "2 1"}, {"2 1", "", "2 1"}, {"2 1; 1 3", "1 ~; 3 1; -1 2", "1 ~; 5 1; -1 2; 1 3"}, {"2 1; 1 3", "-2 1; -1 3", ""}, {"2 1", "-3 1", "-1 1"},
		{"500000 1", "500000 1", "1000000 1"}, {"-500000 1", "-500000 1", "-1000000 1"}, {"1000000 1", "-1000000 1", ""},
	} {
		a, b := begin(t, every(0), 1, of(x.a)), begin(t, every(0), 1, of(x.b))
		if e := a.Merge(b); e != api.OK {
			t.Errorf("Merge of %s and %s = %d", x.a, x.b, e)
		}
		checkAcc(t, "merged", a, of(x.want))
		checkAcc(t, "the other one", b, of(x.b))
	}
	a := begin(t, every(0), 1, of("2 ~; -1 1; 3 7"))
	if e := a.Merge(a); e != api.OK {
		t.Errorf("Merge with itself = %d", e)
	}
	checkAcc(t, "merged with itself", a, of("4 ~; -2 1; 6 7"))
	a, b := begin(t, every(0), 1, many(0, 200, 1)), begin(t, every(0), 1, many(200, 200, -1))
	if e := a.Merge(b); e != api.OK || len(a.Bag()) != api.MaxRows {
		t.Errorf("Merge to %d rows = %d", len(a.Bag()), e)
	}
}

// Promise 5.1: errors in their order; nothing changes then.
func TestMergeErrors(t *testing.T) {
	least, mean := api.Agg{Kind: api.ALeast}, api.Agg{Kind: api.AMean}
	rows, l := of("1000000 1"), []api.Agg{least, mean}
	check := func(b *Acc, want api.Errno) {
		t.Helper()
		a := begin(t, l, 1, rows)
		before := b.Bag()
		if e := a.Merge(b); e != want {
			t.Errorf("Merge = %d, not %d", e, want)
		}
		checkAcc(t, "after an error", a, rows)
		if !bag.Same(b.Bag(), before) {
			t.Error("the other one is changed")
		}
	}
	check(nil, api.ErrInvalid)
	check(begin(t, l[:1], 1, nil), api.ErrKind)
	check(begin(t, l[:1], 1, rows), api.ErrKind) // before ErrLimit
	check(begin(t, []api.Agg{mean, least}, 1, nil), api.ErrKind)
	check(begin(t, []api.Agg{least, mean, mean}, 1, nil), api.ErrKind)
	check(begin(t, []api.Agg{least, {Kind: api.ASum}}, 1, nil), api.ErrKind)
	check(begin(t, []api.Agg{least, {Kind: api.AMean, Column: 1}}, 2, nil), api.ErrKind)
	check(begin(t, l, 2, nil), api.ErrKind)
	check(begin(t, slices.Clone(l), 1, of("1 1")), api.ErrLimit)
	check(begin(t, l, 1, of("5 0; 1 1; 5 2")), api.ErrLimit)
	check(begin(t, l, 1, many(2, api.MaxRows, 1)), api.ErrLimit)
	a := begin(t, l, 1, of("3 0; 500001 1"))
	if e := a.Merge(a); e != api.ErrLimit {
		t.Errorf("Merge with itself = %d", e)
	}
	checkAcc(t, "not merged with itself", a, of("3 0; 500001 1"))
	if e := begin(t, counts(), 1, nil).Merge(begin(t, counts(), 0, nil)); e != api.ErrKind {
		t.Errorf("Merge of other columns = %d", e)
	}
}
