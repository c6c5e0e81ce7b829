package bag

import (
	"math"
	"slices"
	"testing"

	"tidewright/api"
	"tidewright/row"
)

type ofTwo func(a, b api.Bag) (api.Bag, api.Errno)

// checkInvalid checks that a function of two bags is ErrInvalid if either is not valid.
func checkInvalid(t *testing.T, what string, f ofTwo) {
	t.Helper()
	full := many(0, api.MaxRows, api.MaxCount)
	for i, bad := range invalidBags() {
		for _, x := range [][2]api.Bag{{bad, nil}, {nil, bad}, {bad, full}, {full, bad}, {bad, bad}} {
			if c, e := f(x[0], x[1]); len(c) != 0 || e != api.ErrInvalid {
				t.Errorf("%s with bag %d, which is not valid = %v, %d", what, i, c, e)
			}
		}
	}
}

// Promise 3.2.
func TestSum(t *testing.T) {
	for _, x := range []struct {
		a, b, want string
		e          api.Errno
	}{
		{"", "", "", api.OK}, {"2 1", "", "2 1", api.OK}, {"", "2 1", "2 1", api.OK}, {"1 ", "2 ", "3 ", api.OK},
		{"2 1; -1 2; 3 5", "1 1; 1 2; 4 7", "3 1; 3 5; 4 7", api.OK}, {"1 2; 1 \"a\"", "1 ~; 1 1; -5 10", "1 ~; 1 1; 1 2; -5 10; 1 \"a\"", api.OK},
		{"5 1", "-5 1", "", api.OK}, {"999999 1", "1 1", "1000000 1", api.OK}, {"-1000000 1", "1000000 1", "", api.OK},
		{"1000000 1", "1 1", "", api.ErrLimit}, {"-1000000 1", "-1 1", "", api.ErrLimit}, {"1000000 1", "1000000 1", "", api.ErrLimit}, {"1 1; 1000000 2", "1 2; 1 3", "", api.ErrLimit},
	} {
		c, e := Sum(of(x.a), of(x.b))
		checkBag(t, "Sum of "+x.a+" and "+x.b, c, e, x.want, x.e)
	}
	half := many(0, api.MaxRows/2, 1)
	if c, e := Sum(half, many(200, 200, 1)); !Same(c, many(0, api.MaxRows, 1)) || e != api.OK {
		t.Errorf("Sum of %d rows = %v, %d", api.MaxRows, c, e)
	}
	if c, e := Sum(half, many(200, 201, 1)); len(c) != 0 || e != api.ErrLimit {
		t.Errorf("Sum of too many rows = %v, %d", c, e)
	}
	// More rows than a bag has in between, but not in the end.
	if c, e := Sum(many(0, api.MaxRows, 1), many(1, api.MaxRows, -1)); !Same(c, of("1 0; -1 400")) || e != api.OK {
		t.Errorf("Sum = %v, %d", c, e)
	}
	checkInvalid(t, "Sum", Sum)
}

// Promise 3.2.
func TestMinus(t *testing.T) {
	for _, x := range []struct {
		a, b, want string
		e          api.Errno
	}{
		{"", "", "", api.OK}, {"2 1", "", "2 1", api.OK}, {"", "2 1", "-2 1", api.OK}, {"1 ", "3 ", "-2 ", api.OK},
		{"2 1; -1 2; 3 5", "1 1; 1 2; 4 7", "1 1; -2 2; 3 5; -4 7", api.OK}, {"5 1; -2 2", "5 1; -2 2", "", api.OK},
		{"-999999 1", "1 1", "-1000000 1", api.OK}, {"", "-1000000 1", "1000000 1", api.OK},
		{"-1000000 1", "1 1", "", api.ErrLimit}, {"1000000 1", "-1 1", "", api.ErrLimit}, {"1000000 1", "-1000000 1", "", api.ErrLimit},
	} {
		c, e := Minus(of(x.a), of(x.b))
		checkBag(t, "Minus of "+x.a+" and "+x.b, c, e, x.want, x.e)
	}
	if c, e := Minus(many(0, api.MaxRows, 1), of("1 400")); len(c) != 0 || e != api.ErrLimit {
		t.Errorf("Minus of too many rows = %v, %d", c, e)
	}
	checkInvalid(t, "Minus", Minus)
}

// Promise 3.2.
func TestTimes(t *testing.T) {
	for _, x := range []struct {
		b    string
		n    int
		want string
		e    api.Errno
	}{
		{"", 5, "", api.OK}, {"2 1; -1 2; 3 5", -2, "-4 1; 2 2; -6 5", api.OK}, {"2 1; -1 2", 1, "2 1; -1 2", api.OK}, {"2 1; -1 2", 0, "", api.OK}, {"1000000 1", 0, "", api.OK},
		{"1 1", api.MaxCount, "1000000 1", api.OK}, {"1 1", -api.MaxCount, "-1000000 1", api.OK}, {"1000000 1", -1, "-1000000 1", api.OK}, {"-1000 1", 1000, "-1000000 1", api.OK}, {"", api.MaxCount, "", api.OK},
		{"2 1", api.MaxCount, "", api.ErrLimit}, {"1 1; 500001 2", 2, "", api.ErrLimit}, {"1000000 1", api.MaxCount, "", api.ErrLimit}, {"1000000 1", -api.MaxCount, "", api.ErrLimit},
		{"1 1", api.MaxCount + 1, "", api.ErrRange}, {"1 1", -api.MaxCount - 1, "", api.ErrRange}, {"2 1", math.MaxInt, "", api.ErrRange}, {"2 1", math.MinInt, "", api.ErrRange}, {"", api.MaxCount + 1, "", api.ErrRange},
	} {
		c, e := Times(of(x.b), x.n)
		checkBag(t, "Times of "+x.b, c, e, x.want, x.e)
	}
	for i, b := range invalidBags() {
		for _, n := range []int{0, 1, api.MaxCount, api.MaxCount + 1, math.MinInt} {
			if c, e := Times(b, n); len(c) != 0 || e != api.ErrInvalid {
				t.Errorf("Times of bag %d, which is not valid, and %d = %v, %d", i, n, c, e)
			}
		}
	}
}

// Promise 3.2.
func TestApply(t *testing.T) {
	for _, x := range []struct {
		b, l, want string
		e          api.Errno
	}{
		{"", "", "", api.OK}, {"2 1; -1 2", "", "2 1; -1 2", api.OK}, {"", "1 2; 3 1", "3 1; 1 2", api.OK}, {"1 ", "1 ; 1 ", "3 ", api.OK},
		{"2 1; 1 3", "-2 1; 1 2; 1 2; -4 \"a\"; -1 ~", "-1 ~; 2 2; 1 3; -4 \"a\"", api.OK}, {"1 1", "-1 1; 1 1; -1 1", "", api.OK}, {"1 1", "-5 1", "-4 1", api.OK},
		{"1000000 1", "1000000 1; 1000000 1; -1000000 1; -1000000 1", "1000000 1", api.OK}, {"1000000 1", "1 1; -1 1", "1000000 1", api.OK}, {"-1000000 1", "-1 1; 1 2; 1 1", "-1000000 1; 1 2", api.OK},
		{"1000000 1", "1 1", "", api.ErrLimit}, {"-1000000 1", "-1 1", "", api.ErrLimit}, {"", "1000000 1; 1 1", "", api.ErrLimit},
	} {
		c, e := Apply(of(x.b), changes(x.l))
		checkBag(t, "Apply of "+x.l+" to "+x.b, c, e, x.want, x.e)
	}
	full := many(0, api.MaxRows, 1)
	if c, e := Apply(full, changes("1 400")); len(c) != 0 || e != api.ErrLimit {
		t.Errorf("Apply with a row too many = %v, %d", c, e)
	}
	if c, e := Apply(full, changes("1 400; -1 0")); !Same(c, many(1, api.MaxRows, 1)) || e != api.OK {
		t.Errorf("Apply with a row too many in between = %v, %d", c, e)
	}
	if c, e := Apply(full, manyChanges(0, api.MaxRows, 4)); !Same(c, many(0, api.MaxRows, 5)) || e != api.OK {
		t.Errorf("Apply of %d changes = %v, %d", api.MaxRows, c, e)
	}
	for i, b := range invalidBags() {
		if c, e := Apply(b, nil); len(c) != 0 || e != api.ErrInvalid {
			t.Errorf("Apply to bag %d, which is not valid = %v, %d", i, c, e)
		}
	}
	for i, l := range invalidLists() {
		for _, b := range []api.Bag{nil, full, many(0, api.MaxRows, api.MaxCount)} {
			if c, e := Apply(b, l); len(c) != 0 || e != api.ErrInvalid {
				t.Errorf("Apply of list %d, which is not valid = %v, %d", i, c, e)
			}
		}
	}
}

// Promise 3.2: the times of changes do not matter.
func TestApplyTimes(t *testing.T) {
	l := changes("1 1; 2 2; -1 1; 1 3")
	want, _ := Apply(of("1 1"), l)
	for _, at := range []int{-api.MaxTime, -1, 0, api.MaxTime} {
		for i := range l {
			l[i].Time = at * (1 - i%2)
		}
		if c, e := Apply(of("1 1"), l); !Same(c, want) || e != api.OK {
			t.Errorf("Apply at %d = %v, %d", at, c, e)
		}
	}
}

// sameChanges reports whether two lists of changes are equal.
func sameChanges(a, b []api.Change) bool {
	return slices.EqualFunc(a, b, func(x, y api.Change) bool {
		return x.Time == y.Time && x.N == y.N && slices.Equal(x.Row, y.Row)
	})
}

// Promise 3.2.
func TestChanges(t *testing.T) {
	for _, x := range []struct {
		a, b string
		time int
		want string
		e    api.Errno
	}{
		{"", "", 0, "", api.OK}, {"2 1", "1 1", 7, "-1 1", api.OK}, {"1 1; 2 2", "1 1; 2 2", 7, "", api.OK}, {"", "1 \"a\"; 2 \"b\"", -api.MaxTime, "1 \"a\"; 2 \"b\"", api.OK}, {"3 ", "", api.MaxTime, "-3 ", api.OK},
		{"2 1; -1 2; 3 5", "1 1; 1 2; 4 7", 7, "-1 1; 2 2; -3 5; 4 7", api.OK}, {"500000 1", "-500000 1", 0, "-1000000 1", api.OK},
		{"500000 1", "-500001 1", 0, "", api.ErrLimit}, {"-1 1", "1000000 1", 0, "", api.ErrLimit}, {"1000000 1", "-1000000 1", 0, "", api.ErrLimit},
		{"2 1", "1 1", api.MaxTime + 1, "", api.ErrRange}, {"2 1", "2 1", -api.MaxTime - 1, "", api.ErrRange}, {"", "", math.MinInt, "", api.ErrRange}, {"-1 1", "1000000 1", math.MaxInt, "", api.ErrRange},
	} {
		want := changes(x.want)
		for i := range want {
			want[i].Time = x.time
		}
		if l, e := Changes(of(x.a), of(x.b), x.time); !sameChanges(l, want) || e != x.e {
			t.Errorf("Changes(%s, %s, %d) = %v, %d", x.a, x.b, x.time, l, e)
		}
	}
	half := many(0, api.MaxRows/2, 1)
	if l, e := Changes(half, many(200, 200, 1), 0); len(l) != api.MaxRows || e != api.OK {
		t.Errorf("%d changes, %d", len(l), e)
	}
	if l, e := Changes(half, many(200, 201, 1), 0); len(l) != 0 || e != api.ErrLimit {
		t.Errorf("%d changes, %d", len(l), e)
	}
	for _, time := range []int{0, api.MaxTime + 1} {
		checkInvalid(t, "Changes", func(a, b api.Bag) (api.Bag, api.Errno) {
			l, e := Changes(a, b, time)
			return make(api.Bag, len(l)), e
		})
	}
}

// Promise 3.2.
func TestNetted(t *testing.T) {
	at := func(time int, r string, n int) api.Change { return api.Change{Time: time, Row: asRow(r), N: n} }
	for _, x := range []struct {
		l, want []api.Change
		e       api.Errno
	}{
		{nil, nil, api.OK}, {[]api.Change{}, nil, api.OK}, {[]api.Change{at(-3, "", 2)}, []api.Change{at(-3, "", 2)}, api.OK},
		{[]api.Change{at(3, "1", 1), at(9, "2", 2), at(5, "1", 1), at(1, "2", -2)}, []api.Change{at(5, "1", 2)}, api.OK},
		{[]api.Change{at(5, "1", 1), at(3, "1", -2)}, []api.Change{at(5, "1", -1)}, api.OK},
		{[]api.Change{at(-5, "1", 1), at(-7, "1", 1), at(-6, "1", 1)}, []api.Change{at(-5, "1", 3)}, api.OK},
		{[]api.Change{at(9, "1", 1), at(9, "1", -1), at(2, "1", 4)}, []api.Change{at(9, "1", 4)}, api.OK},
		{[]api.Change{at(1, "\"a\"", 1), at(2, "10", 1), at(3, "9", 1), at(4, "~", 1), at(5, "9,1", 1), at(6, "", 1)}, []api.Change{at(6, "", 1), at(4, "~", 1), at(3, "9", 1), at(5, "9,1", 1), at(2, "10", 1), at(1, "\"a\"", 1)}, api.OK},
		{[]api.Change{at(0, "1", api.MaxCount), at(1, "1", api.MaxCount), at(2, "1", -api.MaxCount)}, []api.Change{at(2, "1", api.MaxCount)}, api.OK},
		{[]api.Change{at(api.MaxTime, "1", 1), at(-api.MaxTime, "2", 1), at(-api.MaxTime, "1", 1)}, []api.Change{at(api.MaxTime, "1", 2), at(-api.MaxTime, "2", 1)}, api.OK},

		{[]api.Change{at(0, "1", api.MaxCount), at(0, "1", 1)}, nil, api.ErrLimit}, {[]api.Change{at(0, "2", 1), at(0, "1", -api.MaxCount), at(0, "1", -1)}, nil, api.ErrLimit},
	} {
		if got, e := Netted(x.l); !sameChanges(got, x.want) || e != x.e {
			t.Errorf("Netted(%v) = %v, %d, not %v, %d", x.l, got, e, x.want, x.e)
		}
	}
	l := manyChanges(0, api.MaxRows, 3)
	if got, e := Netted(l); !sameChanges(got, l) || e != api.OK {
		t.Errorf("Netted of %d rows: %d, %d", len(l), len(got), e)
	}
	for i, l := range invalidLists() {
		if got, e := Netted(l); len(got) != 0 || e != api.ErrInvalid {
			t.Errorf("Netted of list %d, which is not valid = %v, %d", i, got, e)
		}
	}
}

// Promises 3.2 and 3.3, against the model.
func TestOfTwo(t *testing.T) {
	d := newDraws(1)
	for range 3000 {
		a, b := d.bag(), d.bag()
		for _, x := range []struct {
			what   string
			f      ofTwo
			become func(m, n int) int
		}{
			{"Sum", Sum, func(m, n int) int { return m + n }},
			{"Minus", Minus, func(m, n int) int { return m - n }},
			{"Meet", Meet, func(m, n int) int { return min(m, n) }},
			{"Join", Join, func(m, n int) int { return max(m, n) }},
		} {
			c, e := x.f(a, b)
			checkModel(t, x.what+" of "+Format(a)+" and "+Format(b), c, e, both(a, b, x.become))
		}
		within := true
		for _, n := range both(a, b, func(m, n int) int { return n - m }) {
			within = within && n >= 0
		}
		if Within(a, b) != within {
			t.Fatalf("Within(%q, %q) = %v", Format(a), Format(b), !within)
		}
	}
}

// Promise P3.2.
func TestGroup(t *testing.T) {
	d := newDraws(2)
	for range 2000 {
		a, b, c := d.bag(), d.bag(), d.bag()
		ab, e := Sum(a, b)
		ba, f := Sum(b, a)
		if !Same(ab, ba) || e != f {
			t.Fatalf("Sum(%q, %q) is not commutative", Format(a), Format(b))
		}
		bc, g := Sum(b, c)
		if e == api.OK && g == api.OK {
			left, e := Sum(ab, c)
			right, f := Sum(a, bc)
			if !Same(left, right) || e != f {
				t.Fatalf("Sum of %q, %q, %q is not associative", Format(a), Format(b), Format(c))
			}
		}
		if e != api.OK {
			continue
		}
		if back, e := Minus(ab, b); !Same(back, a) || e != api.OK {
			t.Fatalf("Minus of %q and %q does not undo Sum", Format(ab), Format(b))
		}
	}
}

// Promise P3.3.
func TestChangesApplied(t *testing.T) {
	d := newDraws(3)
	for range 2000 {
		a, b := d.bag(), d.bag()
		l, e := Changes(a, b, 5)
		checkModel(t, "Changes", bagOf(l), e, both(a, b, func(m, n int) int { return n - m }))
		if e != api.OK {
			continue
		}
		if c, e := Apply(a, l); !Same(c, b) || e != api.OK {
			t.Fatalf("Apply of Changes(%q, %q) = %q, %d", Format(a), Format(b), Format(c), e)
		}
	}
}

// bagOf returns a bag of changes each of which has another row, ascending.
func bagOf(l []api.Change) api.Bag {
	var b api.Bag
	for _, c := range l {
		b = append(b, api.Item{Row: c.Row, N: c.N})
	}
	return b
}

// Promise P3.3: neither the order nor the netting matters.
func TestOrderOfChanges(t *testing.T) {
	d := newDraws(4)
	for range 2000 {
		a, l := d.bag(), d.changes()
		want, e := Apply(a, l)
		checkModel(t, "Apply", want, e, modelOf(append(a, bagOf(l)...)))
		netted, f := Netted(l)
		checkModel(t, "Netted", bagOf(netted), f, modelOf(bagOf(l)))
		checkTimes(t, l, netted)
		d.Shuffle(len(l), func(i, j int) { l[i], l[j] = l[j], l[i] })
		if c, g := Apply(a, l); !Same(c, want) || g != e {
			t.Fatalf("Apply in another order = %q, %d, not %q, %d", Format(c), g, Format(want), e)
		}
		if again, g := Netted(l); !sameChanges(again, netted) || g != f {
			t.Fatalf("Netted in another order = %v, %d, not %v, %d", again, g, netted, f)
		}
		if f != api.OK {
			continue
		}
		if c, g := Apply(a, netted); !Same(c, want) || g != e {
			t.Fatalf("Apply of Netted = %q, %d, not %q, %d", Format(c), g, Format(want), e)
		}
	}
}

// checkTimes checks that each netted change is at the greatest of its row's times.
func checkTimes(t *testing.T, l, netted []api.Change) {
	t.Helper()
	for _, c := range netted {
		last := -api.MaxTime
		for _, x := range l {
			if row.Compare(x.Row, c.Row) == 0 {
				last = max(last, x.Time)
			}
		}
		if c.Time != last {
			t.Fatalf("the last of %v is %d, not %d", c.Row, last, c.Time)
		}
	}
}
