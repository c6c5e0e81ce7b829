package row

import (
	"math"
	"slices"
	"strings"
	"testing"

	"tidewright/api"
)

func ints(names ...string) api.Schema {
	var s api.Schema
	for _, name := range names {
		s = append(s, api.Column{Name: name, Kind: api.VInt})
	}
	return s
}

// Promise 2.3.
func TestProject(t *testing.T) {
	r := api.Row{num(1), text("b"), null()}
	bad := api.Row{num(1), {Kind: 3}}
	for _, x := range []struct {
		r    api.Row
		cols []int
		want api.Row
		e    api.Errno
	}{
		{r, []int{0, 1, 2}, r, api.OK},
		{r, []int{2, 0}, api.Row{null(), num(1)}, api.OK},
		{r, []int{1}, api.Row{text("b")}, api.OK},
		{r, []int{1, 0, 1}, api.Row{text("b"), num(1), text("b")}, api.OK},
		{r, make([]int, 8), slices.Repeat(api.Row{num(1)}, 8), api.OK},
		{r, nil, nil, api.OK}, {r, []int{}, nil, api.OK}, {nil, nil, nil, api.OK},

		{r, make([]int, 9), nil, api.ErrLimit}, {r, make([]int, 1000), nil, api.ErrLimit},
		{r, []int{3}, nil, api.ErrRange}, {r, []int{-1}, nil, api.ErrRange}, {r, []int{0, 1, 2, 3}, nil, api.ErrRange},
		{r, []int{math.MaxInt}, nil, api.ErrRange}, {r, []int{0, math.MinInt}, nil, api.ErrRange}, {nil, []int{0}, nil, api.ErrRange},
		{r, []int{0, 0, 0, 0, 0, 0, 0, 0, 3}, nil, api.ErrRange}, {nil, make([]int, 9), nil, api.ErrRange},
		{bad, []int{0}, nil, api.ErrInvalid}, {bad, nil, nil, api.ErrInvalid}, {bad, []int{5}, nil, api.ErrInvalid}, {bad, make([]int, 9), nil, api.ErrInvalid},
		{nulls(9), []int{0}, nil, api.ErrInvalid}, {nulls(9), []int{9}, nil, api.ErrInvalid},
	} {
		if got, e := Project(x.r, x.cols); !slices.Equal(got, x.want) || e != x.e {
			t.Errorf("Project(%v, %v) = %v, %d", x.r, x.cols, got, e)
		}
	}
	for _, r := range invalidRows() {
		if got, e := Project(r, nil); len(got) != 0 || e != api.ErrInvalid {
			t.Errorf("Project(%v) = %v, %d", r, got, e)
		}
	}
}

// Promise 2.3.
func TestConcat(t *testing.T) {
	for _, x := range []struct {
		a, b, want api.Row
		e          api.Errno
	}{
		{api.Row{num(1)}, api.Row{text("b"), null()}, api.Row{num(1), text("b"), null()}, api.OK},
		{nil, api.Row{num(1)}, api.Row{num(1)}, api.OK}, {api.Row{num(1)}, nil, api.Row{num(1)}, api.OK}, {nil, nil, nil, api.OK},
		{nulls(3), nulls(5), nulls(8), api.OK}, {nulls(8), nil, nulls(8), api.OK}, {nil, nulls(8), nulls(8), api.OK},
		{nulls(4), nulls(5), nil, api.ErrLimit}, {nulls(8), nulls(1), nil, api.ErrLimit}, {nulls(8), nulls(8), nil, api.ErrLimit},
		{nulls(9), nil, nil, api.ErrInvalid}, {nil, nulls(9), nil, api.ErrInvalid}, {nulls(9), nulls(9), nil, api.ErrInvalid},
		{nulls(8), api.Row{{N: 1}}, nil, api.ErrInvalid}, {api.Row{num(maxInt + 1)}, nulls(8), nil, api.ErrInvalid},
	} {
		if got, e := Concat(x.a, x.b); !slices.Equal(got, x.want) || e != x.e {
			t.Errorf("Concat(%v, %v) = %v, %d", x.a, x.b, got, e)
		}
	}
	for _, r := range invalidRows() {
		if got, e := Concat(r, nil); len(got) != 0 || e != api.ErrInvalid {
			t.Errorf("Concat(%v, nil) = %v, %d", r, got, e)
		}
		if got, e := Concat(nil, r); len(got) != 0 || e != api.ErrInvalid {
			t.Errorf("Concat(nil, %v) = %v, %d", r, got, e)
		}
	}
}

// Promise P2.4.
func TestProjectOfConcat(t *testing.T) {
	rows := validRows()
	for i, a := range rows {
		all := first(len(a))
		if got, e := Project(a, all); !slices.Equal(got, a) || e != api.OK {
			t.Fatalf("Project(%v) on all columns = %v, %d", a, got, e)
		}
		b := rows[len(rows)-1-i]
		both, e := Concat(a, b)
		if len(a)+len(b) > api.MaxColumns {
			continue
		}
		if got, f := Project(both, all); !slices.Equal(got, a) || e != api.OK || f != api.OK {
			t.Fatalf("Project(%v, %v) = %v, %d, %d", both, all, got, e, f)
		}
	}
}

// first returns the numbers of the first columns.
func first(count int) []int {
	cols := make([]int, count)
	for i := range cols {
		cols[i] = i
	}
	return cols
}

// Promise 2.3.
func TestFind(t *testing.T) {
	for _, s := range validSchemas() {
		for i, c := range s {
			if n, e := Find(s, c.Name); n != i || e != api.OK {
				t.Errorf("Find(%v, %q) = %d, %d", s, c.Name, n, e)
			}
		}
		for _, name := range []string{"", "zz", "K", "k ", "k\x00", "_", "int", "\xff", strings.Repeat("a", 17)} {
			if n, e := Find(s, name); n != 0 || e != api.ErrName {
				t.Errorf("Find(%v, %q) = %d, %d", s, name, n, e)
			}
		}
	}
	for _, s := range invalidSchemas() {
		for _, name := range []string{"a", "k", "", "zz"} {
			if n, e := Find(s, name); n != 0 || e != api.ErrInvalid {
				t.Errorf("Find(%v, %q) = %d, %d", s, name, n, e)
			}
		}
	}
}

// Promise 2.3.
func TestPicked(t *testing.T) {
	s := api.Schema{{Name: "k", Kind: api.VText}, {Name: "v", Kind: api.VInt}, {Name: "w", Kind: api.VText}}
	eight := ints("a", "b", "c", "d", "e", "f", "g", "h")
	for _, x := range []struct {
		s    api.Schema
		cols []int
		want string
		e    api.Errno
	}{
		{s, []int{0, 1, 2}, "k text, v int, w text", api.OK}, {s, []int{2, 1}, "w text, v int", api.OK}, {s, []int{1}, "v int", api.OK},
		{eight, []int{7, 6, 5, 4, 3, 2, 1, 0}, "h int, g int, f int, e int, d int, c int, b int, a int", api.OK},

		{s, []int{1, 1}, "", api.ErrDuplicate}, {s, []int{0, 1, 0}, "", api.ErrDuplicate}, {s, make([]int, 8), "", api.ErrDuplicate},
		{s, nil, "", api.ErrSize}, {s, []int{}, "", api.ErrSize}, {s, make([]int, 9), "", api.ErrSize}, {eight, []int{0, 1, 2, 3, 4, 5, 6, 7, 0}, "", api.ErrSize},
		{s, []int{3}, "", api.ErrRange}, {s, []int{-1}, "", api.ErrRange}, {s, []int{1, 1, 3}, "", api.ErrRange}, {s, []int{0, math.MinInt}, "", api.ErrRange},
		{s, []int{0, 0, 0, 0, 0, 0, 0, 0, 3}, "", api.ErrRange}, {eight, []int{0, 1, 2, 3, 4, 5, 6, 7, 8}, "", api.ErrRange},
		{ints("k", "k"), []int{0}, "", api.ErrInvalid}, {ints("K"), []int{5}, "", api.ErrInvalid}, {nil, nil, "", api.ErrInvalid}, {nil, []int{0}, "", api.ErrInvalid},
	} {
		got, e := Picked(x.s, x.cols)
		if Format(got) != x.want || e != x.e || e != api.OK && len(got) != 0 {
			t.Errorf("Picked(%v, %v) = %v, %d", x.s, x.cols, got, e)
		}
	}
	for _, s := range validSchemas() {
		if got, e := Picked(s, first(len(s))); !slices.Equal(got, s) || e != api.OK {
			t.Errorf("Picked(%v) = %v, %d", s, got, e)
		}
	}
	for _, s := range invalidSchemas() {
		if got, e := Picked(s, nil); len(got) != 0 || e != api.ErrInvalid {
			t.Errorf("Picked(%v) = %v, %d", s, got, e)
		}
	}
}

// Promise 2.3.
func TestJoined(t *testing.T) {
	s := api.Schema{{Name: "k", Kind: api.VText}, {Name: "v_1", Kind: api.VInt}}
	four, five := ints("a", "b", "c", "d"), ints("a", "b", "c", "d", "e")
	for _, x := range []struct {
		a, b   api.Schema
		prefix string
		want   string
		e      api.Errno
	}{
		{s, s, "b", "k text, v_1 int, b_k text, b_v_1 int", api.OK},
		{ints("b_v"), s, "b", "b_v int, b_k text, b_v_1 int", api.OK},
		{ints("a"), ints("a_a"), "a", "a int, a_a_a int", api.OK},
		{ints("a"), ints("v"), "a2345678901234", "a int, a2345678901234_v int", api.OK},
		{ints("a"), ints("a2345678901234"), "b", "a int, b_a2345678901234 int", api.OK},
		{ints("a234567890123456"), ints("v"), "b", "a234567890123456 int, b_v int", api.OK},
		{four, four, "p", "a int, b int, c int, d int, p_a int, p_b int, p_c int, p_d int", api.OK},

		{ints("b_k"), s, "b", "", api.ErrDuplicate}, {ints("a", "b_v_1"), s, "b", "", api.ErrDuplicate}, {ints("a_b_c"), ints("b_c"), "a", "", api.ErrDuplicate},
		{four, five, "p", "", api.ErrLimit}, {five, four, "p", "", api.ErrLimit}, {five, ints("a", "b", "p_a", "c"), "p", "", api.ErrLimit},
		{s, s, "a2345678901234", "", api.ErrLimit}, {ints("a"), ints("v"), "a23456789012345", "", api.ErrLimit}, {ints("a"), ints("a23456789012345"), "b", "", api.ErrLimit},
		{ints("b_k"), ints("k", "a23456789012345"), "b", "", api.ErrLimit}, {ints("b_k"), ints("a23456789012345", "k"), "b", "", api.ErrLimit},
		{ints("p_a", "b", "c", "d"), five, "p", "", api.ErrLimit},

		{s, s, "", "", api.ErrInvalid}, {s, s, "B", "", api.ErrInvalid}, {s, s, "_", "", api.ErrInvalid}, {s, s, "1", "", api.ErrInvalid}, {s, s, "a23456789012345678", "", api.ErrInvalid},
		{five, five, "", "", api.ErrInvalid}, {ints("b_k"), s, "b ", "", api.ErrInvalid},
		{nil, s, "b", "", api.ErrInvalid}, {s, nil, "b", "", api.ErrInvalid}, {ints("a", "a"), s, "b", "", api.ErrInvalid}, {s, ints("A"), "b", "", api.ErrInvalid},
	} {
		got, e := Joined(x.a, x.b, x.prefix)
		if Format(got) != x.want || e != x.e || e != api.OK && len(got) != 0 {
			t.Errorf("Joined(%v, %v, %q) = %v, %d", x.a, x.b, x.prefix, got, e)
		}
	}
	for _, s := range invalidSchemas() {
		if got, e := Joined(s, five, "p"); len(got) != 0 || e != api.ErrInvalid {
			t.Errorf("Joined(%v, ..) = %v, %d", s, got, e)
		}
		if got, e := Joined(five, s, "p"); len(got) != 0 || e != api.ErrInvalid {
			t.Errorf("Joined(.., %v) = %v, %d", s, got, e)
		}
	}
}

// Promise P2.1: results are new, and arguments stay, also behind their ends.
func TestColumnsNew(t *testing.T) {
	a, b := make(api.Row, 2, 8), api.Row{num(3)}
	for _, call := range []func() api.Row{
		func() api.Row { r, _ := Project(a, []int{0, 1}); return r },
		func() api.Row { r, _ := Concat(a, b); return r },
		func() api.Row { r, _ := Concat(a, nil); return r },
		func() api.Row { r, _ := Concat(nil, a); return r },
	} {
		r := call()
		for i := range r {
			r[i] = num(9)
		}
		if again := call(); again[0] != null() || !slices.Equal(a[:8], nulls(8)) || b[0] != num(3) {
			t.Errorf("the arguments are now %v and %v", a[:8], b)
		}
	}
	s, u := slices.Grow(ints("a", "b"), 6), ints("c")
	for _, call := range []func() api.Schema{
		func() api.Schema { l, _ := Picked(s, []int{0, 1}); return l },
		func() api.Schema { l, _ := Joined(s, u, "p"); return l },
		func() api.Schema { l, _ := Joined(u, s, "p"); return l },
	} {
		l := call()
		for i := range l {
			l[i].Name = "x"
		}
		if again := call(); again[0].Name == "x" || Format(s) != "a int, b int" || Format(u) != "c int" || s[:3][2] != (api.Column{}) {
			t.Errorf("the arguments are now %v and %v", s[:3], u)
		}
	}
}
