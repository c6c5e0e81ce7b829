package fold

import (
	"math"
	"slices"
	"testing"

	"tidewright/api"
	"tidewright/bag"
	"tidewright/row"
)

// Promise 5.3.
func TestOf(t *testing.T) {
	l := []api.Agg{{Kind: api.ACount}, {Kind: api.AValues}, {Kind: api.ADistinct}, {Kind: api.ASum}, {Kind: api.AMean}, {Kind: api.ALeast}}
	for _, x := range []struct {
		rows, want string
		e          api.Errno
	}{
		{"1 ~; 1 2; 2 5", "4,3,2,12,4,2", api.OK}, {"", "0,0,0,~,~,~", api.OK}, {"-1 ~; 1 2", "", api.ErrState}, {"1000000 1", "1000000,1000000,1,1000000,1,1", api.OK},
	} {
		r, e := Of(l, 1, of(x.rows))
		checkRow(t, "Of "+x.rows, r, e, x.want, x.e)
	}
	r, e := Of(counts(), 0, of("4 "))
	checkRow(t, "Of rows without values", r, e, "4", api.OK)
	r, e = Of(counts(), 0, nil)
	checkRow(t, "Of no rows", r, e, "0", api.OK)
	r, e = Of(every(0), 1, many(1, api.MaxRows, api.MaxCount))
	checkRow(t, "Of as many rows as there may be", r, e, "400000000,400000000,80200000000,1,400,200,400", api.OK)
}

// invalidBags are bags that are none, and such of rows with another number of values than 1.
func invalidBags() []api.Bag {
	bags := []api.Bag{
		{{Row: asRow("1")}}, {{Row: asRow("1"), N: api.MaxCount + 1}}, {{Row: asRow("1"), N: math.MinInt}},
		append(of("1 1"), of("1 1")...), append(of("1 2"), of("1 1")...), many(0, api.MaxRows+1, 1), slices.Repeat(of("1 1"), 100000),
		of("1 "), of("1 1,1"), of("1 1; 1 1,1"), of("-1 1; 1 2,~; 1 3"), of("1 ; 1 1"), {{Row: make(api.Row, api.MaxColumns+1), N: 1}},
	}
	for _, r := range invalidRows() {
		bags = append(bags, api.Bag{{Row: r, N: 1}}, api.Bag{{Row: r, N: -1}})
	}
	return bags
}

// Promise 5.3, with the errors in their order; of Two with as many bags as there may be.
func TestOfErrors(t *testing.T) {
	check := func(l []api.Agg, n int, b api.Bag, want api.Errno) {
		t.Helper()
		r, e := Of(l, n, b)
		checkRow(t, "Of "+bag.Format(b), r, e, "", want)
		for i := range api.MaxInputs {
			parts := make([]api.Bag, api.MaxInputs)
			parts[i] = b
			r, e = Two(l, n, parts)
			checkRow(t, "Two with "+bag.Format(b), r, e, "", want)
		}
	}
	for _, b := range invalidBags() {
		check(every(0), 1, b, api.ErrInvalid)
		for _, n := range []int{math.MinInt, -1, 9, math.MaxInt} { // before ErrRange
			check(counts(), n, b, api.ErrInvalid)
		}
	}
	for _, l := range invalidLists() {
		check(l, 2, nil, api.ErrInvalid)
		check(l, 2, of("-1 1,1"), api.ErrInvalid)
	}
	for _, n := range []int{math.MinInt, -1, 9, math.MaxInt} {
		check(counts(), n, nil, api.ErrRange)
		check(nil, n, nil, api.ErrInvalid)
		check(counts(), n, of("1 1"), api.ErrInvalid) // rows with another number of values
	}
	check(every(0), 0, nil, api.ErrInvalid)
	check(counts(), 2, of("1 1"), api.ErrInvalid)
	check(counts(), 0, of("1 1"), api.ErrInvalid)
	check(every(0), 1, of("-1 1; 2 2"), api.ErrState)
}

// Promise 5.3.
func TestTwo(t *testing.T) {
	for _, x := range []struct {
		parts []string
		want  string
		e     api.Errno
	}{
		{[]string{""}, "0,0,~,~,~,~,0", api.OK}, {[]string{"1 1"}, "1,1,1,1,1,1,1", api.OK}, {[]string{"", "", ""}, "0,0,~,~,~,~,0", api.OK}, {[]string{"1 1; 1 2", "1 ~; 1 1"}, "4,3,4,1,2,1,2", api.OK},
		{[]string{"1 1", "1 2", "1 3", "1 4", "1 5", "1 6", "1 7", "1 8"}, "8,8,36,1,8,4,8", api.OK},
		// ErrState is asked behind all.
		{[]string{"-1 1", "1 1; 1 2"}, "1,1,2,2,2,2,1", api.OK}, {[]string{"1 1", "-2 1"}, "", api.ErrState}, {[]string{"-1 1"}, "", api.ErrState}, {[]string{"-1 1", "1 2"}, "", api.ErrState}, {[]string{"2 1", "-2 1"}, "0,0,~,~,~,~,0", api.OK},
		// ErrLimit is asked on the way.
		{[]string{"500000 1", "500000 1"}, "1000000,1000000,1000000,1,1,1,1", api.OK}, {[]string{"1000000 1", "1 1"}, "", api.ErrLimit}, {[]string{"1000000 1", "1 1", "-1 1"}, "", api.ErrLimit}, {[]string{"1000000 1", "-1 1", "1 1"}, "1000000,1000000,1000000,1,1,1,1", api.OK},
		{[]string{"-1000000 1", "-1 1", "1000000 1"}, "", api.ErrLimit}, {[]string{"-1 5", "1000000 1", "1 1"}, "", api.ErrLimit},
	} {
		parts := make([]api.Bag, len(x.parts))
		for i, s := range x.parts {
			parts[i] = of(s)
		}
		r, e := Two(every(0), 1, parts)
		checkRow(t, "Two", r, e, x.want, x.e)
	}
	full, one, none := many(1, api.MaxRows, 1), of("1 0"), of("-1 0")
	for _, x := range []struct {
		parts []api.Bag
		want  string
		e     api.Errno
	}{
		{[]api.Bag{full, one}, "", api.ErrLimit}, {[]api.Bag{full, one, none}, "", api.ErrLimit}, {[]api.Bag{none, full}, "", api.ErrLimit}, {[]api.Bag{none, one, full}, "400", api.OK}, {[]api.Bag{full, full}, "800", api.OK}, {[]api.Bag{full, many(1, api.MaxRows, -1), one}, "1", api.OK},
	} {
		r, e := Two(counts(), 1, x.parts)
		checkRow(t, "Two of many rows", r, e, x.want, x.e)
	}
}

// Promise 5.3: from 1 to MaxInputs bags, which is asked before the number of columns and what the bags come to.
func TestTwoOfMany(t *testing.T) {
	for _, count := range []int{0, api.MaxInputs + 1, 100000} {
		for _, b := range []api.Bag{nil, of("1 1"), of("1000000 1"), of("-1 1")} {
			r, e := Two(every(0), 1, slices.Repeat([]api.Bag{b}, count))
			checkRow(t, "Two of another number", r, e, "", api.ErrInvalid)
		}
		r, e := Two(counts(), 9, make([]api.Bag, count))
		checkRow(t, "Two of another number and columns", r, e, "", api.ErrInvalid)
	}
	for count := 1; count <= api.MaxInputs; count++ {
		r, e := Two(counts(), 1, slices.Repeat([]api.Bag{of("1 1")}, count))
		checkRow(t, "Two", r, e, row.Text(api.Row{num(count)}), api.OK)
	}
}

// Promise 5.3: of each kind, of a column of each kind.
func TestKinds(t *testing.T) {
	schema, _ := row.ParseSchema("a int, b text")
	for column, want := range [][]int{
		{api.VInt, api.VInt, api.VInt, api.VInt, api.VInt, api.VInt, api.VInt},
		{api.VInt, api.VInt, 0, api.VText, api.VText, 0, api.VInt},
	} {
		for i, a := range every(column) {
			kinds, e := Kinds(schema, []api.Agg{a})
			if want[i] == 0 {
				if len(kinds) != 0 || e != api.ErrKind {
					t.Errorf("Kinds of %v = %v, %d", a, kinds, e)
				}
			} else if !slices.Equal(kinds, want[i:i+1]) || e != api.OK {
				t.Errorf("Kinds of %v = %v, %d, not %d", a, kinds, e, want[i])
			}
		}
	}
	l := []api.Agg{{Kind: api.AGreatest, Column: 1}, {Kind: api.AMean}, {Kind: api.ALeast, Column: 1}, {Kind: api.ALeast}}
	if kinds, e := Kinds(schema, l); !slices.Equal(kinds, []int{api.VText, api.VInt, api.VText, api.VInt}) || e != api.OK {
		t.Errorf("Kinds = %v, %d", kinds, e)
	}
	text, _ := row.ParseSchema("a text")
	if kinds, e := Kinds(text, counts()); !slices.Equal(kinds, []int{api.VInt}) || e != api.OK {
		t.Errorf("Kinds of counts alone = %v, %d", kinds, e)
	}
}

// Promise 5.3: errors of Kinds in their order.
func TestKindsErrors(t *testing.T) {
	schema, _ := row.ParseSchema("a int, b text")
	bad := []api.Agg{{Kind: api.ASum, Column: 1}}
	check := func(s api.Schema, l []api.Agg, want api.Errno) {
		t.Helper()
		if kinds, e := Kinds(s, l); len(kinds) != 0 || e != want {
			t.Errorf("Kinds(%v, %v) = %v, %d, not %d", s, l, kinds, e, want)
		}
	}
	check(schema, bad, api.ErrKind)
	check(schema, append(counts(), bad...), api.ErrKind)
	check(schema, append(bad, counts()...), api.ErrKind)
	for _, l := range invalidLists() {
		check(schema, l, api.ErrInvalid)
		check(schema, slices.Concat(bad, l, []api.Agg{{Kind: api.ALeast, Column: 2}}), api.ErrInvalid) // before ErrKind
	}
	nine := make(api.Schema, api.MaxColumns+1)
	for i := range nine {
		nine[i] = api.Column{Name: string(rune('a' + i)), Kind: api.VText}
	}
	for _, s := range []api.Schema{nil, {}, nine, {{Name: "a", Kind: api.VText}, {Name: "a", Kind: api.VText}}, {{Name: "A", Kind: api.VText}, {Name: "b", Kind: api.VText}}, {{Name: "a", Kind: api.VText}, {Name: "b"}}} {
		check(s, counts(), api.ErrInvalid)
		check(s, bad, api.ErrInvalid)
	}
	check(nine[:1], bad, api.ErrInvalid)
	check(nine[:2], bad, api.ErrKind)
}
