package bag

import (
	"math"
	"slices"
	"testing"

	"tidewright/api"
	"tidewright/row"
)

// Promise 3.3.
func TestDistinct(t *testing.T) {
	for _, x := range []struct{ b, want string }{
		{"", ""}, {"2 1; -1 2; 3 5", "1 1; 1 5"}, {"1 1; 1 2", "1 1; 1 2"}, {"-1 1; -1000000 2", ""}, {"1000000 ; 7 \"a\"", "1 ; 1 \"a\""},
	} {
		c, e := Distinct(of(x.b))
		checkBag(t, "Distinct of "+x.b, c, e, x.want, api.OK)
	}
	for i, b := range invalidBags() {
		if c, e := Distinct(b); len(c) != 0 || e != api.ErrInvalid {
			t.Errorf("Distinct of bag %d, which is not valid = %v, %d", i, c, e)
		}
	}
}

// Promise 3.3: what is not there comes 0 times, which is more than below 0.
func TestMeetAndJoin(t *testing.T) {
	for _, x := range []struct{ a, b, meet, join string }{
		{"", "", "", ""}, {"2 1", "", "", "2 1"}, {"", "2 1", "", "2 1"}, {"-2 1", "", "-2 1", ""}, {"", "-2 1", "-2 1", ""}, {"1 ", "3 ", "1 ", "3 "},
		{"2 1; -1 2; 3 5", "1 1; 1 2; 4 7", "1 1; -1 2", "2 1; 1 2; 3 5; 4 7"}, {"-1 1; -5 2; -3 3", "-2 1; -4 2; 3 3", "-2 1; -5 2; -3 3", "-1 1; -4 2; 3 3"},
		{"1000000 1", "-1000000 1", "-1000000 1", "1000000 1"},
	} {
		c, e := Meet(of(x.a), of(x.b))
		checkBag(t, "Meet of "+x.a+" and "+x.b, c, e, x.meet, api.OK)
		c, e = Join(of(x.a), of(x.b))
		checkBag(t, "Join of "+x.a+" and "+x.b, c, e, x.join, api.OK)
	}
	checkInvalid(t, "Meet", Meet)
	checkInvalid(t, "Join", Join)
}

// Promise 3.3: of two bags without a common row the meet is limited only if they are below 0, the join only if they are above.
func TestMeetAndJoinLimit(t *testing.T) {
	up, moreUp, down, moreDown := many(0, 200, 1), many(200, 201, 1), many(0, 200, -1), many(200, 201, -1)
	for _, x := range []struct {
		what string
		f    ofTwo
		a, b api.Bag
		rows int
		e    api.Errno
	}{
		{"Meet", Meet, up, moreUp, 0, api.OK}, {"Join", Join, up, moreUp, 0, api.ErrLimit}, {"Join", Join, up, moreUp[:200], 400, api.OK},
		{"Meet", Meet, down, moreDown, 0, api.ErrLimit}, {"Join", Join, down, moreDown, 0, api.OK}, {"Meet", Meet, down, moreDown[:200], 400, api.OK},
	} {
		if c, e := x.f(x.a, x.b); len(c) != x.rows || e != x.e {
			t.Errorf("%s of %d and %d rows: %d, %d", x.what, len(x.a), len(x.b), len(c), e)
		}
	}
}

// Promise 3.3.
func TestWithin(t *testing.T) {
	for _, x := range []struct {
		a, b string
		want bool
	}{
		{"", "", true}, {"", "1 1", true}, {"1 1", "", false}, {"-1 1", "", true}, {"", "-1 1", false}, {"1 1", "1 1", true}, {"1 1", "2 1", true}, {"2 1", "1 1", false},
		{"1 1", "1 1; 1 2", true}, {"1 1", "1 2", false}, {"1 1; 1 2", "1 1", false}, {"1 1", "1 1; -1 2", false}, {"1 1; -1 2", "1 1", true}, {"-2 1", "-1 1", true}, {"-1 1", "-2 1", false},
		{"1 1; 1 2; 1 3", "1 1; 1 2; 1 3", true}, {"1 1; 1 2; 2 3", "1 1; 1 2; 1 3", false}, {"1 ", "1 ~", false},
	} {
		if got := Within(of(x.a), of(x.b)); got != x.want {
			t.Errorf("Within(%s, %s) = %v", x.a, x.b, got)
		}
	}
	for i, b := range invalidBags() {
		if Within(b, nil) || Within(nil, b) || Within(b, b) || Within(b, many(0, 400, api.MaxCount)) || Within(many(0, 400, -api.MaxCount), b) {
			t.Errorf("Within of bag %d, which is not valid", i)
		}
	}
}

// Promise P3.4.
func TestLattice(t *testing.T) {
	d := newDraws(5)
	for range 2000 {
		a, b, x := d.bag(), d.bag(), d.bag()
		meet, _ := Meet(a, b)
		join, _ := Join(a, b)
		if !Within(meet, a) || !Within(meet, b) || !Within(a, join) || !Within(b, join) {
			t.Fatalf("%q and %q are no bounds of %q and %q", Format(meet), Format(join), Format(a), Format(b))
		}
		// And the closest ones: made of x, a bound of both lies beyond them.
		below, _ := Meet(x, meet)
		above, _ := Join(x, join)
		if Within(below, a) && Within(below, b) && !Within(below, meet) || Within(a, above) && Within(b, above) && !Within(join, above) {
			t.Fatalf("%q and %q are not the closest bounds of %q and %q", Format(meet), Format(join), Format(a), Format(b))
		}
		for _, f := range []ofTwo{Meet, Join} {
			if c, e := f(a, a); !Same(c, a) || e != api.OK {
				t.Fatalf("%q is not idempotent: %q", Format(a), Format(c))
			}
		}
		once, e := Distinct(a)
		m := modelOf(a)
		for s, n := range m {
			m[s] = max(0, min(n, 1))
		}
		checkModel(t, "Distinct", once, e, m)
		if twice, e := Distinct(once); !Same(twice, once) || e != api.OK {
			t.Fatalf("Distinct of Distinct = %q, not %q", Format(twice), Format(once))
		}
	}
}

// Promise 3.3.
func TestProject(t *testing.T) {
	for _, x := range []struct {
		b    string
		cols []int
		want string
		e    api.Errno
	}{
		{"1 1,5; 2 2,5", []int{1}, "3 5", api.OK}, {"1 1,5; 2 2,5", []int{0}, "1 1; 2 2", api.OK}, {"1 1,5; 2 2,4", []int{1, 0}, "2 4,2; 1 5,1", api.OK}, {"1 1,5", []int{1, 1, 0}, "1 5,5,1", api.OK},
		{"1 1,5; 2 2,5; -4 3", nil, "-1 ", api.OK}, {"1 1; -1 2", []int{}, "", api.OK}, {"2 1,5; -2 2,5; 1 3,6", []int{1}, "1 6", api.OK}, {"", nil, "", api.OK}, {"3 ", nil, "3 ", api.OK},
		{"", []int{0, 7}, "", api.OK}, {"", make([]int, 8), "", api.OK}, {"1 5", make([]int, 8), "1 5,5,5,5,5,5,5,5", api.OK}, {"1 1,2,3,4,5,6,7,8", []int{7, 0}, "1 8,1", api.OK},
		{"500000 1,5; 500000 2,5", []int{1}, "1000000 5", api.OK}, {"1000000 1,5; 1 2,5; -1 3,5", []int{1}, "1000000 5", api.OK},

		{"1000000 1,5; 1 2,5", []int{1}, "", api.ErrLimit}, {"-1000000 1,5; -1 2,5", []int{1}, "", api.ErrLimit}, {"", make([]int, 9), "", api.ErrLimit}, {"1 5", make([]int, 9), "", api.ErrLimit}, {"", make([]int, 5000), "", api.ErrLimit},
		{"1 1,5", []int{2}, "", api.ErrRange}, {"1 1,5; 1 2", []int{1}, "", api.ErrRange}, {"1 1; 1 2,5", []int{1}, "", api.ErrRange}, {"1 ; 1 1", []int{0}, "", api.ErrRange}, {"1 1,5", []int{0, -1}, "", api.ErrRange},
		{"", []int{-1}, "", api.ErrRange}, {"", []int{8}, "", api.ErrRange}, {"", []int{0, math.MinInt}, "", api.ErrRange}, {"", []int{math.MaxInt}, "", api.ErrRange}, {"1 1,2,3,4,5,6,7,8", []int{8}, "", api.ErrRange},
		{"", []int{0, 0, 0, 0, 0, 0, 0, 0, 8}, "", api.ErrRange}, {"1 5; 1 5,1", []int{1, 1, 1, 1, 1, 1, 1, 1, 1}, "", api.ErrRange}, {"1 5,1; 1 6", []int{1, 1, 1, 1, 1, 1, 1, 1, 1}, "", api.ErrRange}, {"1000000 1,5; 1 2,5", []int{1, 2}, "", api.ErrRange},
	} {
		c, e := Project(of(x.b), x.cols)
		checkBag(t, "Project of "+x.b, c, e, x.want, x.e)
	}
	for i, b := range invalidBags() {
		for _, cols := range [][]int{nil, {0}, {-1}, make([]int, 9)} {
			if c, e := Project(b, cols); len(c) != 0 || e != api.ErrInvalid {
				t.Errorf("Project of bag %d, which is not valid = %v, %d", i, c, e)
			}
		}
	}
}

// Promise 3.3, against the model.
func TestProjectDrawn(t *testing.T) {
	d := newDraws(6)
	for range 1000 {
		b, cols := d.bag(), make([]int, d.Intn(4))
		for i := range cols {
			cols[i] = d.Intn(2)
		}
		m := model{}
		for _, item := range b {
			r, _ := row.Project(item.Row, cols)
			m[row.Text(r)] += item.N
		}
		c, e := Project(b, cols)
		checkModel(t, "Project of "+Format(b), c, e, m)
	}
}

// Promise 3.3.
func TestRows(t *testing.T) {
	for _, x := range []struct {
		b    api.Bag
		want string
		e    api.Errno
	}{
		{nil, "", api.OK}, {of("1 1"), "1;", api.OK}, {of("2 1; 1 2; 3 \"a\""), "1;1;2;\"a\";\"a\";\"a\";", api.OK}, {of("2 "), ";;", api.OK},
		{of("-1 1"), "", api.ErrState}, {of("1 1; -1 2"), "", api.ErrState}, {of("401 1; -1 2"), "", api.ErrState},
		{of("401 1"), "", api.ErrLimit}, {of("1 1; 400 2"), "", api.ErrLimit}, {many(0, 400, api.MaxCount), "", api.ErrLimit}, {of("1 1; 1000000 2"), "", api.ErrLimit},
	} {
		l, e := Rows(x.b)
		got := ""
		for _, r := range l {
			got += row.Text(r) + ";"
		}
		if got != x.want || e != x.e {
			t.Errorf("Rows(%v) = %s, %d", x.b, got, e)
		}
	}
	for _, b := range []api.Bag{of("400 1"), of("1 1; 399 2"), many(0, api.MaxRows, 1)} {
		if l, e := Rows(b); len(l) != api.MaxRows || e != api.OK {
			t.Errorf("%d rows, %d", len(l), e)
		}
	}
	for i, b := range invalidBags() {
		if l, e := Rows(b); len(l) != 0 || e != api.ErrInvalid {
			t.Errorf("Rows of bag %d, which is not valid = %v, %d", i, l, e)
		}
	}
}

// Promise P3.5.
func TestOfRows(t *testing.T) {
	d := newDraws(7)
	for range 1000 {
		b := d.whole()
		l, e := Rows(b)
		d.Shuffle(len(l), func(i, j int) { l[i], l[j] = l[j], l[i] })
		if c, f := Of(l); !Same(c, b) || e != api.OK || f != api.OK {
			t.Fatalf("Of(Rows(%q)) = %q, %d, %d", Format(b), Format(c), e, f)
		}
	}
}

// Promise 3.3.
func TestUpserts(t *testing.T) {
	first := []int{0}
	for _, x := range []struct {
		b, l string
		key  []int
		want string
		e    api.Errno
	}{
		{"", "1 1,\"a\"; 1 1,\"b\"", first, "1 1,\"b\"", api.OK}, {"1 3,\"z\"", "1 1,\"a\"; 3 1,\"b\"; 1 2,\"c\"; -1 2,\"x\"", first, "1 1,\"b\"; 1 3,\"z\"", api.OK},
		{"5 1,1; 2 1,2; -3 1,3; 4 2,1", "1 1,4", first, "1 1,4; 4 2,1", api.OK}, {"5 1,1; 2 1,2; -3 1,3; 4 2,1", "-1 1,4", first, "4 2,1", api.OK}, {"5 1,1; -3 2,2", "", first, "5 1,1; -3 2,2", api.OK},
		{"-3 1,1", "1 1,1", first, "1 1,1", api.OK}, {"5 1,1", "7 1,1", first, "1 1,1", api.OK}, {"", "-1 1,1", first, "", api.OK}, {"", "-1 1,1; 1 1,2", first, "1 1,2", api.OK}, {"", "1 1,2; -1000000 1,3", first, "", api.OK},
		{"1 1,1; 1 2,2", "1 3,1", []int{1}, "1 2,2; 1 3,1", api.OK}, {"1 1,2; 1 2,1", "1 1,2,5; 1 1,1", []int{0, 1}, "1 1,1; 1 1,2,5; 1 2,1", api.OK}, {"1 1,2,3", "1 1,7,3", []int{2, 0}, "1 1,7,3", api.OK}, {"1 1,2,3; 1 3,2,1", "1 3,7,1", []int{2, 0}, "1 1,2,3; 1 3,7,1", api.OK},
		{"1 1,2", "1 1,3", []int{0, 0}, "1 1,3", api.OK}, {"1 1,2", "1 1,3; 1 2,2", make([]int, 9), "1 1,3; 1 2,2", api.OK}, {"1 1,2", "1 1,3", []int{1, 0, 0, 0, 0, 0, 0, 0, 0, 1}, "1 1,2; 1 1,3", api.OK},
		{"1 ~,1; 1 \"~\",1", "1 ~,2", first, "1 ~,2; 1 \"~\",1", api.OK}, {"1 1,1; 1 \"1\",1", "-1 \"1\",1", first, "1 1,1", api.OK}, {"", "", first, "", api.OK}, {"", "", []int{7}, "", api.OK},
		{"1 9,1", "1 10,1; 1 \"a\"; 1 2", first, "1 2; 1 9,1; 1 10,1; 1 \"a\"", api.OK},

		{"", "1 1,1", nil, "", api.ErrRange}, {"", "", nil, "", api.ErrRange}, {"1 1", "", []int{}, "", api.ErrRange}, {"", "1 1,1", []int{2}, "", api.ErrRange}, {"1 1,1", "", []int{2}, "", api.ErrRange}, {"1 1,1", "1 1,1,1", []int{2}, "", api.ErrRange},
		{"1 1,1,1", "1 1,1", []int{2}, "", api.ErrRange}, {"1 1,1,1", "1 1,1,1; -1 1,1", []int{2}, "", api.ErrRange}, {"1 ", "1 1", first, "", api.ErrRange}, {"", "1 ", first, "", api.ErrRange}, {"", "1 1; -1 ", first, "", api.ErrRange},
		{"1 1", "1 1", []int{0, -1}, "", api.ErrRange}, {"1 1", "1 1", []int{math.MinInt}, "", api.ErrRange}, {"1 1", "1 1", []int{0, math.MaxInt}, "", api.ErrRange}, {"", "", []int{-1}, "", api.ErrRange}, {"", "", []int{8}, "", api.ErrRange},
	} {
		c, e := Upserts(of(x.b), changes(x.l), x.key)
		checkBag(t, "Upserts of "+x.l+" to "+x.b, c, e, x.want, x.e)
	}
	for i, b := range invalidBags() {
		for _, key := range [][]int{nil, {0}, {9}} {
			if c, e := Upserts(b, nil, key); len(c) != 0 || e != api.ErrInvalid {
				t.Errorf("Upserts to bag %d, which is not valid = %v, %d", i, c, e)
			}
		}
	}
	for i, l := range invalidLists() {
		for _, key := range [][]int{nil, {0}, {9}} {
			if c, e := Upserts(many(0, api.MaxRows, 1), l, key); len(c) != 0 || e != api.ErrInvalid {
				t.Errorf("Upserts of list %d, which is not valid = %v, %d", i, c, e)
			}
		}
	}
}

// Promise 3.3: only the result counts for the limit.
func TestUpsertsLimit(t *testing.T) {
	full := many(0, api.MaxRows, 1)
	if c, e := Upserts(full, changes("1 400"), []int{0}); len(c) != 0 || e != api.ErrLimit {
		t.Errorf("Upserts with a row too many = %v, %d", c, e)
	}
	if c, e := Upserts(full, changes("1 400; -1 0"), []int{0}); !Same(c, many(1, api.MaxRows, 1)) || e != api.OK {
		t.Errorf("Upserts with a row too many in between = %v, %d", c, e)
	}
	if c, e := Upserts(full, manyChanges(0, api.MaxRows, 2), []int{0}); !Same(c, full) || e != api.OK {
		t.Errorf("Upserts of %d changes = %v, %d", api.MaxRows, c, e)
	}
}

// upserted is what Upserts says, done row by row.
func upserted(b api.Bag, l []api.Change, key []int) model {
	m := modelOf(b)
	for _, c := range l {
		for s := range m {
			r := asRow(s)
			same := !slices.ContainsFunc(key, func(k int) bool { return row.CompareValues(r[k], c.Row[k]) != 0 })
			if same {
				delete(m, s)
			}
		}
		if c.N > 0 {
			m[row.Text(c.Row)] = 1
		}
	}
	return m
}

// Promises 3.3 and P3.5: as row by row, and twice the same is once.
func TestUpsertsTwice(t *testing.T) {
	d := newDraws(8)
	for range 2000 {
		b, l, key := d.bag(), d.changes(), []int{d.Intn(2)}
		if d.Intn(2) == 0 {
			key = append(key, d.Intn(2))
		}
		once, e := Upserts(b, l, key)
		checkModel(t, "Upserts to "+Format(b), once, e, upserted(b, l, key))
		if twice, e := Upserts(once, l, key); !Same(twice, once) || e != api.OK {
			t.Fatalf("Upserts twice = %q, not %q", Format(twice), Format(once))
		}
	}
}
