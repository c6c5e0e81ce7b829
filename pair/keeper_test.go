package pair

import (
	"math"
	"testing"

	"tidewright/api"
)

func newKeeper(t *testing.T, kind int, on, others []int, wide, width int) *Keeper {
	t.Helper()
	k, e := NewKeeper(kind, on, others, wide, width)
	if k == nil || e != api.OK {
		t.Fatalf("NewKeeper(%d, %v, %v, %d, %d) = %d", kind, on, others, wide, width, e)
	}
	return k
}

// runKeeper tells a keeper lines: `left TIME N ROW`, `right TIME N ROW` or `now`.
func runKeeper(t *testing.T, k *Keeper, script string) {
	t.Helper()
	now := func() string {
		b, e := k.Now()
		if e != api.OK {
			t.Errorf("Now = %d", e)
		}
		return shownBag(b)
	}
	runSides(t, script, k.Left, k.Right, func(string, string) (string, api.Errno) { return now(), api.OK }, now)
}

// Promise 9.4: the chapter's example, and the other kinds.
func TestKeeper(t *testing.T) {
	runKeeper(t, newKeeper(t, 1, first(1), first(1), 2, 2), `
		now =
		left 4 1 1,10 = 4 1 1,10,~,~
		right 5 2 1,5 = 5 -1 1,10,~,~; 5 2 1,10,1,5
		left 3 2 1,10 = 3 4 1,10,1,5
		right 2 1 2,5 =
		right 2 1 ~,5 =
		left 1 1 ~,5 = 1 1 ~,5,~,~
		now = 1 ~,5,~,~; 6 1,10,1,5
		right 6 -1 1,5 = 6 -3 1,10,1,5
		right 6 -2 1,5 = ErrState
		right 6 -1 1,5 = 6 3 1,10,~,~; 6 -3 1,10,1,5
		right 6 -1 1,5 = ErrState
		left 6 -4 1,10 = ErrState
		left 6 -3 1,10 = 6 -3 1,10,~,~
		left 6 -1 1,10 = ErrState
		now = 1 ~,5,~,~
	`)
	runKeeper(t, newKeeper(t, 0, first(1), first(1), 1, 2), `
		left 0 1 1 =
		right 0 1 1,1 = 0 1 1,1,1
		right 0 1 1,2 = 0 1 1,1,2
		right 0 1 2,2 =
		left -5 -1 1 = -5 -1 1,1,1; -5 -1 1,1,2
		now =
	`)
	runKeeper(t, newKeeper(t, 2, first(1), first(1), 1, 2), `
		left 0 1 1 =
		right 0 1 2,2 = 0 1 ~,2,2
		right 0 1 1,2 = 0 1 1,1,2
		left 9 3 2 = 9 -1 ~,2,2; 9 3 2,2,2
		left 9 -1 1 = 9 1 ~,1,2; 9 -1 1,1,2
		now = 1 ~,1,2; 3 2,2,2
	`)
	runKeeper(t, newKeeper(t, 3, []int{1}, first(1), 2, 1), `
		left 1 2 5,1 = 1 2 5,1,~
		right 1 1 2 = 1 1 ~,~,2
		left 2 1 5,2 = 2 -1 ~,~,2; 2 1 5,2,2
		right 2 1 1 = 2 -2 5,1,~; 2 2 5,1,1
		right 3 1 ~ = 3 1 ~,~,~
		left 3 2 ~,~ = 3 2 ~,~,~
		now = 3 ~,~,~; 2 5,1,1; 1 5,2,2
		right 3 -1 ~ = 3 -1 ~,~,~
		now = 2 ~,~,~; 2 5,1,1; 1 5,2,2
	`)
	runKeeper(t, newKeeper(t, 3, nil, nil, 1, 0), `
		right 0 2  =  0 2 ~
		left 0 3 7 = 0 -2 ~; 0 6 7
		right 0 -2  = 0 -3 7
		left 0 1 ~ = 0 1 ~
		right 0 1  =
		right 0 1  = 0 1 ~; 0 3 7
	`)
}

// Promise 9.4: the errors of a keeper's methods, in their order.
func TestKeeperErrors(t *testing.T) {
	k := newKeeper(t, 3, first(1), []int{1}, 1, 2)
	for _, c := range wrongChanges() {
		l, e := k.Left(c)
		r, f := k.Right(c)
		if e != api.ErrInvalid || f != api.ErrInvalid || len(l)+len(r) > 0 {
			t.Errorf("Left(%v) = %d, Right = %d", c, e, f)
		}
	}
	runKeeper(t, k, `
		left 0 -1 1,2 = ErrSize
		left 0 1  = ErrSize
		right 0 -1 1 = ErrSize
		right 0 -1 1,2,3 = ErrSize
		left 0 -1 1 = ErrState
		right 0 -1 1,2 = ErrState
		left 0 1000000 1 = 0 1000000 1,~,~
		left 0 1 1 = ErrLimit
		left 0 -1000001 1 = ErrInvalid
		right 0 1 5,1 = 0 -1000000 1,~,~; 0 1000000 1,5,1
		right 0 1 5,1 = ErrLimit
		right 0 -2 5,1 = ErrState
		right 0 1 6,1 = 0 1000000 1,6,1
		left 0 -999999 1 = 0 -999999 1,5,1; 0 -999999 1,6,1
		right 0 999999 5,1 = 0 999999 1,5,1
		left 0 1 1 = ErrLimit
		right 0 1000000 7,2 = 0 1000000 ~,7,2
		right 0 1 7,2 = ErrLimit
		now = 1000000 ~,7,2; 1000000 1,5,1; 1 1,6,1
	`)
	runKeeper(t, newKeeper(t, 0, first(1), first(1), 1, 1), `
		left 0 1000000 1 =
		left 0 1 1 = ErrLimit
		right 0 2 1 = ErrLimit
		left 0 -500000 1 =
		right 0 2 1 = 0 1000000 1,1
	`)
	runKeeper(t, newKeeper(t, 3, first(1), first(1), 1, 1), `
		left 0 500000 ~ = 0 500000 ~,~
		right 0 500001 ~ = ErrLimit
		right 0 500000 ~ = 0 500000 ~,~
		left 0 1 ~ = ErrLimit
		now = 1000000 ~,~
	`)
}

// fill tells a call n different rows with a key and a number.
func fill(t *testing.T, call tell, key, from, n int) {
	t.Helper()
	for i := range n {
		if _, e := call(api.Change{Row: api.Row{num(key), num(from + i)}, N: 1}); e != api.OK {
			t.Fatalf("row %d of the key %d: %d", from+i, key, e)
		}
	}
}

// Promise 9.4: no bag and no list of changes has more than MaxRows rows.
func TestKeeperLimit(t *testing.T) {
	check := func(what string, call tell, s string, changes int, want api.Errno) {
		t.Helper()
		if l, e := call(change(s)); len(l) != changes || e != want {
			t.Errorf("%s: %d changes, %d, not %d, %d", what, len(l), e, changes, want)
		}
	}
	k := newKeeper(t, 0, first(1), first(1), 2, 2)
	fill(t, k.Left, 1, 0, 400)
	check("a row too many on the left", k.Left, "0 1 2,2", 0, api.ErrLimit)
	check("one that is there", k.Left, "0 1 1,5", 0, api.OK)
	check("a partner of all", k.Right, "0 1 1,1", 400, api.OK)
	check("another one", k.Right, "0 1 1,2", 0, api.ErrLimit)
	check("one that has none", k.Right, "0 1 2,2", 0, api.OK)
	check("one that is gone", k.Left, "0 -2 1,5", 1, api.OK)
	check("another in its place", k.Left, "0 1 2,5", 1, api.OK)
	check("a row too many in all", k.Right, "0 1 2,3", 0, api.ErrLimit)
	check("a row more often", k.Right, "0 1 2,2", 1, api.OK)

	k = newKeeper(t, 3, first(1), first(1), 2, 2)
	fill(t, k.Left, 1, 0, 201)
	check("more changes than there may be", k.Right, "0 1 1,1", 0, api.ErrLimit)
	check("a row of 201", k.Left, "0 -1 1,9", 1, api.OK)
	check("as many changes as there may be", k.Right, "0 1 1,1", 400, api.OK)
	fill(t, k.Right, 2, 0, 200)
	check("a row too many in all", k.Right, "0 1 3,1", 0, api.ErrLimit)
	check("also on the left", k.Left, "0 1 3,1", 0, api.ErrLimit)
	check("a partner in place of nulls", k.Left, "0 1 2,1", 400, api.OK)
	check("two of them", k.Left, "0 1 2,2", 0, api.ErrLimit)
	check("none again", k.Left, "0 -1 2,1", 400, api.OK)
	check("all without partners again", k.Right, "0 -1 1,1", 400, api.OK)
	b, e := k.Now()
	if len(b) != 400 || e != api.OK {
		t.Errorf("Now: %d rows, %d", len(b), e)
	}
}

// Promise 9.4: the errors of NewKeeper, and of keepers that it did not make.
func TestNewKeeper(t *testing.T) {
	nine := make([]int, 9)
	for i, x := range []struct {
		kind        int
		on, others  []int
		wide, width int
		want        api.Errno
	}{
		{0, nil, nil, 0, 0, api.OK},
		{3, nil, nil, 8, 0, api.OK},
		{3, nil, nil, 0, 8, api.OK},
		{1, first(4), first(4), 4, 4, api.OK},
		{2, []int{0, 0, 0}, []int{0, 1, 1}, 1, 2, api.OK},
		{4, first(1), nil, 1, 1, api.ErrSize},
		{4, nil, []int{-1}, 1, 1, api.ErrSize},
		{4, nine, nine, 1, 1, api.ErrSize},
		{4, nil, nil, 5, 4, api.ErrSize},
		{4, nil, nil, -1, 10, api.ErrSize},
		{4, nil, nil, 9, 0, api.ErrSize},
		{4, nil, nil, math.MaxInt, math.MaxInt, api.ErrSize},
		{0, nil, nil, -1, 9, api.ErrRange},
		{0, nil, nil, -1, 0, api.ErrRange},
		{0, nil, nil, 0, -1, api.ErrRange},
		{0, nil, nil, math.MinInt, math.MinInt, api.ErrRange},
		{0, nil, nil, math.MinInt, math.MaxInt, api.ErrRange},
		{-1, nil, nil, 1, 1, api.ErrRange},
		{4, nil, nil, 1, 1, api.ErrRange},
		{0, []int{1}, first(1), 1, 1, api.ErrRange},
		{0, first(1), []int{1}, 1, 1, api.ErrRange},
		{0, []int{-1}, first(1), 1, 1, api.ErrRange},
		{0, first(1), []int{-1}, 1, 1, api.ErrRange},
		{0, first(1), first(1), 0, 1, api.ErrRange},
	} {
		if k, e := NewKeeper(x.kind, x.on, x.others, x.wide, x.width); e != x.want || (e == api.OK) != (k != nil) {
			t.Errorf("call %d: %v, %d, not %d", i, k, e, x.want)
		}
	}
	for _, k := range []*Keeper{nil, {}} {
		_, e := k.Left(change("0 1 1"))
		_, f := k.Right(api.Change{})
		if b, g := k.Now(); e != api.ErrInvalid || f != api.ErrInvalid || g != api.ErrInvalid || len(b) > 0 {
			t.Errorf("%v: %d, %d, %d", k, e, f, g)
		}
	}
}
