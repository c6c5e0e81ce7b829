package fold

import (
	"strings"
	"testing"

	"tidewright/api"
	"tidewright/bag"
	"tidewright/row"
)

// Promise 5.2: what each kind tells, in the order count, values, sum, least, greatest, mean, distinct.
func TestResult(t *testing.T) {
	long := `"` + strings.Repeat("x", api.MaxString) + `"`
	for _, x := range []struct{ rows, want string }{
		{"", "0,0,~,~,~,~,0"}, {"3 ~", "3,0,~,~,~,~,0"}, {"1 ~; 1 2; 2 5", "4,3,12,2,5,4,2"}, {"1 0", "1,1,0,0,0,0,1"}, {"1 -1; 1 1", "2,2,0,-1,1,0,2"}, {"1000000 7", "1000000,1000000,7000000,7,7,7,1"},
		// Rounded down, also below 0.
		{"1 1; 1 2", "2,2,3,1,2,1,2"}, {"1 -2; 1 -1", "2,2,-3,-2,-1,-2,2"}, {"1 -1; 1 0; 1 5", "3,3,4,-1,5,1,3"}, {"1 -5; 1 0; 1 1", "3,3,-4,-5,1,-2,3"}, {"2 -1; 1 0", "3,3,-2,-1,0,-1,2"}, {"2 -4; 2 -2", "4,4,-12,-4,-2,-3,2"},
		// Texts are above all numbers, and null for a sum and a mean.
		{`1 "a"`, `1,1,~,"a","a",~,1`}, {`2 ""`, `2,2,~,"","",~,1`}, {`1 ~; 3 10; 2 ""; 1 "10"`, `7,6,30,10,"10",10,3`}, {`1 -7; 1 "b"; 1 "ba"`, `3,3,-7,-7,"ba",-7,3`}, {`1 ~; 5 "a"; 1 "b"`, `7,6,~,"a","b",~,2`},
		{`1 "\x00"; 1 "0"; 1 ` + long + `; 1 "\xff"`, `4,4,~,"\x00","\xff",~,4`}, {`1 9; 1 10`, "2,2,19,9,10,9,2"}, {`1 "10"; 1 "9"`, `2,2,~,"10","9",~,2`},
	} {
		a := begin(t, every(0), 1, of(x.rows))
		for range 2 {
			r, e := a.Result()
			checkRow(t, "Result of "+x.rows, r, e, x.want, api.OK)
		}
	}
}

// Promise 5.2: sums are exact in between, and null beyond MaxInt, as the means of these are.
func TestSums(t *testing.T) {
	l := []api.Agg{{Kind: api.ASum}, {Kind: api.AMean}}
	for _, x := range []struct{ rows, want string }{
		{"1 1000000000000000", "1000000000000000,1000000000000000"}, {"1 -1000000000000000", "-1000000000000000,-1000000000000000"},
		{"1 1; 1 1000000000000000", "~,~"}, {"1 -1000000000000000; 1 -1", "~,~"}, {"1 1; 1 999999999999999", "1000000000000000,500000000000000"}, {"1 -999999999999999; 1 -1", "-1000000000000000,-500000000000000"},
		{"2 500000000000000", "1000000000000000,500000000000000"}, {"2 500000000000001", "~,~"}, {"2 -500000000000001", "~,~"}, {"1000000 1000000000", "1000000000000000,1000000000"}, {"1000000 1000000001", "~,~"}, {"1000000 -1000000000", "-1000000000000000,-1000000000"}, {"1000000 -1000000001", "~,~"},
		{"2 -7; 2 1000000000000000", "~,~"}, {"2 -1000000000000000; 3 -7; 2 1000000000000000", "-21,-3"}, {"1000000 -1000000000000000; 1000000 1000000000000000", "0,0"},
		{"1000000 -1000000000000000; 2 3; 1000000 1000000000000000", "6,0"}, {"1000000 -1000000000000000; 999999 1000000000000000", "-1000000000000000,-500000251"}, {"1000000 -999999999999999; 1000000 1000000000000000", "1000000,0"}, {"1000000 -999999999; 1 999999999000000", "0,0"},
		{"1 744073709551616; 18446 1000000000000000", "~,~"}, {"18446 -1000000000000000; 1 -744073709551616", "~,~"}, // 2^64, either way
		{"1 -1000000000000000; 1 -999999999; 1 1000000000", "-999999999999999,-333333333333333"}, {"1000000 -1000000000000000; 1000000 -1; 1000000 2; 1000000 1000000000000000", "1000000,0"},
	} {
		b := of(x.rows)
		r, e := begin(t, l, 1, b).Result()
		checkRow(t, "Result of "+x.rows, r, e, x.want, api.OK)
		r, e = Of(l, 1, b)
		checkRow(t, "Of "+x.rows, r, e, x.want, api.OK)
	}
	// As many as there may be of the greatest: the sum is far beyond what an int holds.
	for _, first := range []int{api.MaxInt - api.MaxRows + 1, -api.MaxInt} {
		b := many(first, api.MaxRows, api.MaxCount)
		r, e := Of(l, 1, b)
		checkRow(t, "the greatest sum", r, e, "~,~", api.OK)
		b[0].Row[0], b[399].Row[0] = num(-api.MaxInt), num(api.MaxInt)
		r, e = Of(l, 1, b)
		checkRow(t, "the greatest sum less twice MaxInt", r, e, "~,~", api.OK)
	}
	b := append(many(-api.MaxInt, 200, api.MaxCount), many(api.MaxInt-199, 200, api.MaxCount)...)
	r, e := Of(l, 1, b)
	checkRow(t, "a sum that comes to nothing", r, e, "0,0", api.OK)
	b[200].N--
	r, e = Of(l, 1, b)
	checkRow(t, "less one", r, e, "-999999999999801,-2500001", api.OK)
	b[200].N--
	r, e = Of(l, 1, b)
	checkRow(t, "less two", r, e, "~,~", api.OK)
}

// Promise 5.2: each aggregate looks at its own column, whatever else is in the row, and the result has them in their order.
func TestColumns(t *testing.T) {
	b := of(`2 ~,"b",3; 1 1,"a",~; 3 1,"b",4; 1 2,~,-1`)
	l := []api.Agg{{Kind: api.ASum, Column: 2}, {Kind: api.ALeast, Column: 1}, {Kind: api.AValues}, {Kind: api.ADistinct, Column: 1}, {Kind: api.ACount}, {Kind: api.ASum}, {Kind: api.AGreatest, Column: 1}, {Kind: api.AMean, Column: 2}}
	r, e := begin(t, l, 3, b).Result()
	checkRow(t, "Result", r, e, `17,"a",5,2,7,6,"b",2`, api.OK)
	r, e = begin(t, l[1:3], 3, b).Result()
	checkRow(t, "Result of two", r, e, `"a",5`, api.OK)
	r, e = begin(t, counts(), 0, of("4 ")).Result()
	checkRow(t, "Result of no columns", r, e, "4", api.OK)
	eight := of("1 1,2,3,4,5,6,7,8; 1 1,2,3,4,5,6,7,9")
	r, e = begin(t, every(7), 8, eight).Result()
	checkRow(t, "Result of the last of eight columns", r, e, "2,2,17,8,9,8,2", api.OK)
}

// Promise 5.2: ErrState as long as some row is there less than 0 times, however many there are of others with the same values.
func TestState(t *testing.T) {
	a := begin(t, every(0), 2, of("-1 1,1; 5 1,2"))
	for _, x := range []struct {
		row  string
		n    int
		want string
		e    api.Errno
	}{
		{"3,3", 7, "", api.ErrState}, {"1,1", 1, "12,12,26,1,3,2,2", api.OK}, {"3,3", -8, "", api.ErrState}, {"1,2", -6, "", api.ErrState}, {"3,3", 1, "", api.ErrState}, {"1,2", 1, "0,0,~,~,~,~,0", api.OK},
	} {
		if e := a.Add(asRow(x.row), x.n); e != api.OK {
			t.Errorf("Add(%s, %d) = %d", x.row, x.n, e)
		}
		before := a.Bag()
		r, e := a.Result()
		checkRow(t, "Result of "+bag.Format(before), r, e, x.want, x.e)
		checkAcc(t, "after Result", a, before)
	}
}

// Promise 5.2: how many rows there are in all may be 0 where some are.
func TestRows(t *testing.T) {
	for _, x := range []struct {
		rows string
		want int
	}{{"", 0}, {"1 1", 1}, {"3 1; 4 2", 7}, {"3 1; -4 2", -1}, {"3 1; -3 2", 0}, {"-1000000 1", -1000000}} {
		a := begin(t, every(0), 1, of(x.rows))
		if got := a.Rows(); got != x.want {
			t.Errorf("Rows of %q = %d, not %d", x.rows, got, x.want)
		}
		if got := a.Empty(); got != (x.rows == "") {
			t.Errorf("Empty of %q = %v", x.rows, got)
		}
	}
	if got := begin(t, counts(), 1, many(0, api.MaxRows, api.MaxCount)).Rows(); got != api.MaxRows*api.MaxCount {
		t.Errorf("Rows of the most there may be = %d", got)
	}
}

// Promises 5.1 and 5.2, of what is no accumulator: nil, and one that New did not make, which has no list.
func TestNone(t *testing.T) {
	for _, a := range []*Acc{nil, {}} {
		if e := a.Add(asRow("1"), 1); e != api.ErrInvalid {
			t.Errorf("Add = %d", e)
		}
		if e := a.Add(nil, 0); e != api.ErrInvalid { // before ErrRange
			t.Errorf("Add of no row = %d", e)
		}
		for _, b := range []*Acc{a, nil, {}, begin(t, counts(), 0, nil)} {
			if e := a.Merge(b); e != api.ErrInvalid {
				t.Errorf("Merge = %d", e)
			}
		}
		if e := begin(t, counts(), 0, nil).Merge(a); e != api.ErrInvalid {
			t.Errorf("Merge into one = %d", e)
		}
		if r, e := a.Result(); len(r) != 0 || e != api.ErrInvalid {
			t.Errorf("Result = %v, %d", r, e)
		}
		if a.Rows() != 0 || !a.Empty() || len(a.Bag()) != 0 || (a.Copy() == nil) != (a == nil) {
			t.Errorf("Rows %d, Empty %v, Bag %v, Copy %v", a.Rows(), a.Empty(), a.Bag(), a.Copy())
		}
	}
}

// Promise P5.5, and Copy of 5.2.
func TestCopy(t *testing.T) {
	rows := of(`1 ~,~; -2 1,"a"; 3 2,"b"`)
	tests := []struct {
		name   string
		change func(a *Acc)
	}{
		{"nothing", func(a *Acc) {}},
		{"a new row", func(a *Acc) { a.Add(asRow("0,0"), 1) }},
		{"a row once more", func(a *Acc) { a.Add(asRow("~,~"), 1) }},
		{"a row less", func(a *Acc) { a.Add(asRow("~,~"), -1) }},
		{"the last row less", func(a *Acc) { a.Add(asRow(`2,"b"`), -3) }},
		{"merged", func(a *Acc) { a.Merge(a) }},
	}
	for _, x := range tests {
		a := begin(t, every(1), 2, rows)
		c := a.Copy()
		checkAcc(t, "a copy", c, rows)
		x.change(a)
		changed := a.Bag()
		checkAcc(t, "the copy behind "+x.name, c, rows)
		x.change(c)
		checkAcc(t, "the copy with "+x.name, c, changed)
		checkAcc(t, "the first behind "+x.name+" of the copy", a, changed)
		b := begin(t, every(1), 2, nil)
		if e := b.Merge(a); e != api.OK {
			t.Errorf("Merge = %d", e)
		}
		x.change(b)
		checkAcc(t, "the first behind "+x.name+" of one that it is merged into", a, changed)
	}
	a := begin(t, []api.Agg{{Kind: api.AMean, Column: 1}}, 2, of("1 1,2; 1 3,4"))
	c := a.Copy()
	r, e := c.Result()
	checkRow(t, "Result of a copy", r, e, "3", api.OK)
	if e := a.Merge(c); e != api.OK || a.Rows() != 4 {
		t.Errorf("Merge with a copy = %d", e)
	}
	if e := c.Add(asRow("1"), 1); e != api.ErrInvalid {
		t.Errorf("Add of another number of values to a copy = %d", e)
	}
	if got := row.Text(c.Bag()[1].Row); got != "3,4" {
		t.Errorf("the copy has %s", got)
	}
}
