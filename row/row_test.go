package row

import (
	"math"
	"math/rand"
	"slices"
	"strings"
	"testing"

	"tidewright/api"
)

const maxInt = api.MaxInt

func null() api.Value { return api.Value{} }

func num(n int) api.Value { return api.Value{Kind: api.VInt, N: n} }

func text(s string) api.Value { return api.Value{Kind: api.VText, S: s} }

func nulls(count int) api.Row { return make(api.Row, count) }

// validValues are ascending, with the edges of each kind.
func validValues() []api.Value {
	return []api.Value{
		null(),
		num(-maxInt), num(-maxInt + 1), num(-10), num(-9), num(-1), num(0), num(1), num(9), num(10), num(maxInt - 1), num(maxInt),
		text(""), text("\x00"), text("\n"), text("\x1f"), text(" "), text("\""), text(","), text("-5"), text("10"), text("9"), text("A"), text("\\"), text("\\n"), text("\\x41"),
		text("a"), text("a\x00"), text("a\"b"), text("ab"), text("b"), text(strings.Repeat("x", api.MaxString-1)), text(strings.Repeat("x", api.MaxString)),
		text("~"), text("\x7f"), text("\x80"), text("é"), text(strings.Repeat("\xff", api.MaxString)),
	}
}

// invalidValues are values each of which breaks one rule.
func invalidValues() []api.Value {
	return []api.Value{
		{N: 1}, {N: -1}, {S: "x"}, {N: 1, S: "x"},
		num(maxInt + 1), num(-maxInt - 1), num(math.MaxInt), num(math.MinInt), {Kind: api.VInt, S: "x"}, {Kind: api.VInt, N: 5, S: "5"},
		text(strings.Repeat("x", api.MaxString+1)), text(strings.Repeat("é", api.MaxString/2) + "x"), {Kind: api.VText, N: 1}, {Kind: api.VText, N: -1, S: "x"},
		{Kind: 3}, {Kind: 3, N: 1}, {Kind: 3, S: "x"}, {Kind: -1}, {Kind: math.MinInt}, {Kind: math.MaxInt},
	}
}

// validRows have values of all kinds, and all counts that a row may have.
func validRows() []api.Row {
	rows := []api.Row{nil, {}}
	for count := 1; count <= api.MaxColumns; count++ {
		rows = append(rows, nulls(count))
	}
	for _, v := range validValues() {
		rows = append(rows, api.Row{v}, api.Row{null(), v}, api.Row{v, num(-1)}, api.Row{text("a"), v, null()})
	}
	return append(rows, slices.Repeat(api.Row{text(strings.Repeat("\xff", api.MaxString))}, api.MaxColumns), validValues()[8:16])
}

func invalidRows() []api.Row {
	rows := []api.Row{nulls(api.MaxColumns + 1), slices.Repeat(api.Row{num(1)}, 100)}
	for _, v := range invalidValues() {
		rows = append(rows, api.Row{v}, api.Row{v, null()}, api.Row{num(1), text("a"), v})
	}
	return rows
}

// Promise 2.1.
func TestValid(t *testing.T) {
	for _, v := range validValues() {
		if !ValidValue(v) {
			t.Errorf("%v is not valid", v)
		}
	}
	for _, v := range invalidValues() {
		if ValidValue(v) {
			t.Errorf("%v is valid", v)
		}
	}
	for _, r := range validRows() {
		if !Valid(r) {
			t.Errorf("%v is not valid", r)
		}
	}
	for _, r := range invalidRows() {
		if Valid(r) {
			t.Errorf("%v is valid", r)
		}
	}
}

// checkAscending checks that each of l is below all behind it, and equal to itself.
func checkAscending[E any](t *testing.T, l []E, compare func(a, b E) int) {
	for i, a := range l {
		for j, b := range l {
			want := 0
			if i < j {
				want = -1
			} else if i > j {
				want = 1
			}
			if got := compare(a, b); got != want {
				t.Errorf("of %v and %v: %d, not %d", a, b, got, want)
			}
		}
	}
}

// Promises 2.1 and P2.2.
func TestCompareValues(t *testing.T) {
	checkAscending(t, validValues(), CompareValues)
}

// Promise 2.1: fields beside those of the kind do not count, other kinds are as null, and no limit counts.
func TestCompareInvalidValues(t *testing.T) {
	long := strings.Repeat("x", 1000)
	for _, x := range []struct {
		a, b api.Value
		want int
	}{
		{api.Value{N: 5, S: "x"}, null(), 0},
		{api.Value{N: 5}, api.Value{N: 4}, 0},
		{api.Value{Kind: 3, N: 1, S: "x"}, null(), 0},
		{api.Value{Kind: 3, N: 1}, api.Value{Kind: -7, N: 2}, 0},
		{api.Value{Kind: math.MaxInt, N: 9, S: "z"}, num(-maxInt), -1},
		{api.Value{Kind: math.MinInt}, num(math.MinInt), -1},
		{text(""), api.Value{Kind: 4, S: "a"}, 1},
		{api.Value{Kind: api.VInt, N: 1, S: "b"}, api.Value{Kind: api.VInt, N: 1, S: "a"}, 0},
		{api.Value{Kind: api.VInt, N: 1, S: "b"}, api.Value{Kind: api.VInt, N: 2, S: "a"}, -1},
		{api.Value{Kind: api.VText, N: 1, S: "a"}, api.Value{Kind: api.VText, N: 2, S: "a"}, 0},
		{api.Value{Kind: api.VText, N: 1, S: "b"}, api.Value{Kind: api.VText, N: 2, S: "a"}, 1},
		{num(math.MinInt), num(math.MaxInt), -1},
		{num(math.MaxInt), num(math.MinInt), 1},
		{num(maxInt + 2), num(maxInt + 1), 1},
		{num(math.MaxInt), text(""), -1},
		{text(long + "a"), text(long + "b"), -1},
		{text(long), text(long), 0},
	} {
		if got := CompareValues(x.a, x.b); got != x.want {
			t.Errorf("CompareValues(%v, %v) = %d, not %d", x.a, x.b, got, x.want)
		}
		if got := CompareValues(x.b, x.a); got != -x.want {
			t.Errorf("CompareValues(%v, %v) = %d, not %d", x.b, x.a, got, -x.want)
		}
		if got := Compare(api.Row{num(1), x.a}, api.Row{num(1), x.b}); got != x.want {
			t.Errorf("Compare of rows that end with %v and %v = %d, not %d", x.a, x.b, got, x.want)
		}
	}
}

// ascendingRows are rows each of which is below all behind it.
func ascendingRows() []api.Row {
	return []api.Row{
		{},
		{null()}, {null(), null()}, {null(), null(), null()}, {null(), num(-1)}, {null(), text("a")},
		{num(-5)}, {num(-3)}, {num(-3), null()}, {num(-3), num(7)}, {num(-3), num(7), text("")}, {num(-3), num(8)}, {num(-3), text("")},
		{num(2)}, {num(2), num(1)}, {num(10)}, {num(10), null()},
		{text("")}, {text(""), text("")}, {text("10")}, {text("9")}, {text("a")}, {text("a"), text("z")}, {text("a\"b")}, {text("ab")}, {text("ab"), null()}, {text("b")},
	}
}

// Promises 2.1 and P2.2.
func TestCompare(t *testing.T) {
	checkAscending(t, ascendingRows(), Compare)
	if Compare(nil, api.Row{}) != 0 || Compare(nil, nil) != 0 || Compare(nil, nulls(1)) != -1 {
		t.Error("Compare of no values")
	}
	if a := nulls(20); Compare(a, nulls(19)) != 1 || Compare(a, nulls(20)) != 0 {
		t.Error("Compare of rows that are too long")
	}
}

// Promise P2.2: of any rows, also of those that are not valid, one of three holds, and it is transitive.
func TestOrder(t *testing.T) {
	var l []api.Row
	values := append(invalidValues(), null(), num(0), num(3), text(""), text("x"))
	for i, v := range values {
		l = append(l, api.Row{v}, api.Row{v, values[len(values)-1-i]}, api.Row{num(1), v})
	}
	for _, a := range l {
		for _, b := range l {
			ab := Compare(a, b)
			if ab < -1 || ab > 1 || Compare(b, a) != -ab {
				t.Fatalf("Compare(%v, %v) = %d, and %d the other way", a, b, ab, Compare(b, a))
			}
			for _, c := range l {
				if ac := Compare(a, c); ab <= 0 && Compare(b, c) <= 0 && (ac > 0 || ac == 0 && ab < 0) {
					t.Fatalf("%v, %v and %v are not in order", a, b, c)
				}
			}
		}
	}
}

// Promises 2.1 and P2.2.
func TestSort(t *testing.T) {
	want := ascendingRows()
	draw := rand.New(rand.NewSource(1))
	for range 50 {
		l := slices.Clone(want)
		draw.Shuffle(len(l), func(i, j int) { l[i], l[j] = l[j], l[i] })
		if got := Sort(l); !slices.EqualFunc(got, want, slices.Equal[api.Row]) {
			t.Fatalf("Sort(%v) = %v", l, got)
		}
	}
	for _, l := range [][]api.Row{nil, {}} {
		if got := Sort(l); len(got) != 0 {
			t.Errorf("Sort(%v) = %v", l, got)
		}
	}
	if got := Sort([]api.Row{nil, {}, nil}); len(got) != 3 {
		t.Errorf("Sort of rows without values = %v", got)
	}
}

// Promise 2.1: rows that are equal in order stay as they stand, all of them, with the fields that do not count.
func TestSortEqual(t *testing.T) {
	var l []api.Row
	for i := range 300 {
		l = append(l, api.Row{{Kind: api.VInt, N: i % 3, S: strings.Repeat("s", i)}, {Kind: 3, N: i}})
	}
	got := Sort(l)
	if len(got) != len(l) {
		t.Fatalf("%d rows of %d", len(got), len(l))
	}
	for i, r := range got {
		want := l[i%100*3+i/100]
		if !slices.Equal(r, want) {
			t.Fatalf("row %d is %v, not %v", i, r, want)
		}
	}
}

// Promise P2.1: Sort leaves its argument as it was, and its rows are new.
func TestSortNew(t *testing.T) {
	shared := make(api.Row, 1, 4)
	shared[0] = num(2)
	l := []api.Row{shared, shared, {num(1)}}
	got := Sort(l)
	for i := range got {
		got[i][0] = num(10 + i)
		got[i] = append(got[i], num(7))
	}
	if l[0][0] != num(2) || l[1][0] != num(2) || l[2][0] != num(1) || shared[:2][1] != null() {
		t.Errorf("the rows are now %v", l)
	}
	if got[0][0] != num(10) || got[1][0] != num(11) || got[2][0] != num(12) {
		t.Errorf("rows share memory: %v", got)
	}
}

// Promise P2.1: every call ends and none panics, whatever its arguments are.
func TestAnyArguments(t *testing.T) {
	rows := append(invalidRows(), validRows()...)
	schemas := append(invalidSchemas(), validSchemas()...)
	cols := [][]int{nil, {0}, {-1}, {math.MinInt, math.MaxInt}, {8}, {1, 0, 1}, make([]int, 1000)}
	for i, a := range rows {
		b, s := rows[len(rows)-1-i], schemas[i%len(schemas)]
		Compare(a, b)
		Concat(a, b)
		Fits(s, a)
		if got := Text(a); (got != "") != (Valid(a) && len(a) > 0) {
			t.Errorf("Text(%v) = %q", a, got)
		}
		for _, c := range cols {
			if r, e := Project(a, c); e != api.OK && len(r) != 0 {
				t.Errorf("Project(%v, %v) = %v, %d", a, c, r, e)
			}
		}
	}
	for i, a := range schemas {
		b := schemas[len(schemas)-1-i]
		for _, name := range []string{"", "a", "B", "\xff", strings.Repeat("a", 100000)} {
			if n, e := Find(a, name); e != api.OK && n != 0 {
				t.Errorf("Find(%v, %q) = %d, %d", a, name, n, e)
			}
			if s, e := Joined(a, b, name); e != api.OK && len(s) != 0 || e == api.OK && !ValidSchema(s) {
				t.Errorf("Joined(%v, %v, %q) = %v, %d", a, b, name, s, e)
			}
		}
		for _, c := range cols {
			if s, e := Picked(a, c); e != api.OK && len(s) != 0 || e == api.OK && !ValidSchema(s) {
				t.Errorf("Picked(%v, %v) = %v, %d", a, c, s, e)
			}
		}
	}
}
