package pair

import (
	"math"
	"testing"

	"tidewright/api"
)

// Promise 9.1: Outer, of the kinds 0 to 3.
func TestOuter(t *testing.T) {
	for _, x := range []struct {
		on, others  []int
		wide, width int
		l, r        string
		want        [4]string
	}{
		{first(1), first(1), 2, 2, "2 1,10; 1 2,20", "1 ~,5; 3 1,5; 1 3,5", [4]string{
			"6 1,10,1,5",
			"6 1,10,1,5; 1 2,20,~,~",
			"1 ~,~,~,5; 1 ~,~,3,5; 6 1,10,1,5",
			"1 ~,~,~,5; 1 ~,~,3,5; 6 1,10,1,5; 1 2,20,~,~",
		}},
		{first(1), first(1), 1, 1, "2 ~", "3 ~", [4]string{"", "2 ~,~", "3 ~,~", "5 ~,~"}},
		{first(2), first(2), 2, 2, "2 ~,1; 1 1,1", "3 ~,1; 1 1,~", [4]string{
			"",
			"2 ~,1,~,~; 1 1,1,~,~",
			"3 ~,~,~,1; 1 ~,~,1,~",
			"3 ~,~,~,1; 1 ~,~,1,~; 2 ~,1,~,~; 1 1,1,~,~",
		}},
		{nil, nil, 1, 1, "2 ~; 3 1", "5 ~; 7 2", [4]string{
			"10 ~,~; 14 ~,2; 15 1,~; 21 1,2", "10 ~,~; 14 ~,2; 15 1,~; 21 1,2",
			"10 ~,~; 14 ~,2; 15 1,~; 21 1,2", "10 ~,~; 14 ~,2; 15 1,~; 21 1,2",
		}},
		{nil, nil, 1, 1, "2 ~; 3 1", "", [4]string{"", "2 ~,~; 3 1,~", "", "2 ~,~; 3 1,~"}},
		{nil, nil, 1, 2, "", "2 1,1", [4]string{"", "", "2 ~,1,1", "2 ~,1,1"}},
		{nil, nil, 0, 0, "4 ", "5 ", [4]string{"20 ", "20 ", "20 ", "20 "}},
		{nil, nil, 0, 1, "4 ", "5 1", [4]string{"20 1", "20 1", "20 1", "20 1"}},
		{[]int{1}, first(1), 2, 1, "1 1,2; 1 2,1; 1 3,1", "1 1; 2 3", [4]string{
			"1 2,1,1; 1 3,1,1",
			"1 1,2,~; 1 2,1,1; 1 3,1,1",
			"2 ~,~,3; 1 2,1,1; 1 3,1,1",
			"2 ~,~,3; 1 1,2,~; 1 2,1,1; 1 3,1,1",
		}},
		{[]int{0, 1}, []int{1, 0}, 2, 2, "1 1,2", "1 1,2; 1 2,1", [4]string{
			"1 1,2,2,1", "1 1,2,2,1", "1 ~,~,1,2; 1 1,2,2,1", "1 ~,~,1,2; 1 1,2,2,1",
		}},
		{first(1), first(1), 1, 1, "1 1", "1 \"1\"", [4]string{"", "1 1,~", "1 ~,\"1\"", "1 ~,\"1\"; 1 1,~"}},
	} {
		for kind, want := range x.want {
			got, e := Outer(kind, x.on, x.others, x.wide, x.width, bagOf(x.l), bagOf(x.r))
			checkBag(t, x.l+" with "+x.r, got, e, want, api.OK)
		}
	}
}

// Promise 9.1: the errors of Outer, in their order.
func TestOuterErrors(t *testing.T) {
	one, nine := bagOf("1 1"), make([]int, 9)
	for i, wrong := range []api.Bag{bagOf("0 1"), bagOf("1 2; 1 1"), bagOf("1 1; 1 1"), bagOf("1000001 1"), {{Row: api.Row{{Kind: 4}}, N: 1}}, manyItems(401, 1, 1)} {
		_, e := Outer(9, first(1), nil, 9, 9, wrong, one)
		_, f := Outer(9, nine, nine, 9, 9, one, wrong)
		if e != api.ErrInvalid || f != api.ErrInvalid {
			t.Errorf("wrong bag %d: %d, %d", i, e, f)
		}
	}
	for i, x := range []struct {
		kind        int
		on, others  []int
		wide, width int
		l, r        api.Bag
		want        api.Errno
	}{
		{9, first(1), nil, 1, 1, one, one, api.ErrSize},
		{9, nine, nine, 1, 1, one, one, api.ErrSize},
		{9, nil, nil, 2, 1, one, one, api.ErrSize},
		{9, nil, nil, 1, 2, one, one, api.ErrSize},
		{9, nil, nil, 1, 1, bagOf("1 1; 1 1,2"), one, api.ErrSize},
		{9, nil, nil, 1, 1, one, bagOf("1 1; 1 1,2"), api.ErrSize},
		{9, nil, nil, 5, 4, nil, nil, api.ErrSize},
		{9, nil, nil, 9, 0, nil, nil, api.ErrSize},
		{9, nil, nil, 10, -1, nil, nil, api.ErrSize},
		{9, nil, nil, math.MaxInt, math.MaxInt, nil, nil, api.ErrSize},
		{9, nil, nil, math.MaxInt, 1, nil, nil, api.ErrSize},
		{0, nil, nil, math.MaxInt, math.MinInt, nil, nil, api.ErrRange},
		{0, nil, nil, math.MinInt, math.MinInt, nil, nil, api.ErrRange},
		{0, nil, nil, 9, -1, nil, nil, api.ErrRange},
		{0, nil, nil, -1, 1, nil, one, api.ErrRange},
		{-1, nil, nil, 1, 1, bagOf("-1 1"), one, api.ErrRange},
		{4, nil, nil, 1, 1, one, bagOf("-1 1"), api.ErrRange},
		{math.MaxInt, nil, nil, 1, 1, one, one, api.ErrRange},
		{0, []int{1}, first(1), 1, 1, bagOf("-1 1"), one, api.ErrRange},
		{0, first(1), []int{1}, 1, 2, nil, nil, api.OK},
		{0, first(1), []int{1}, 1, 1, nil, nil, api.ErrRange},
		{0, []int{-1}, first(1), 1, 1, nil, nil, api.ErrRange},
		{0, first(1), []int{-1}, 1, 1, nil, nil, api.ErrRange},
		{0, first(1), first(1), 1, 0, nil, nil, api.ErrRange},
		{0, nil, nil, 1, 1, bagOf("-1 1"), one, api.ErrState},
		{0, nil, nil, 1, 1, one, bagOf("-1 1; 1 2"), api.ErrState},
		{0, nil, nil, 1, 1, bagOf("-1 1"), bagOf("1000000 1"), api.ErrState},
	} {
		b, e := Outer(x.kind, x.on, x.others, x.wide, x.width, x.l, x.r)
		if e != x.want || len(b) > 0 {
			t.Errorf("call %d: %v, %d, not %d", i, b, e, x.want)
		}
	}
}

// Promise 9.1: Outer's ErrLimit.
func TestOuterLimit(t *testing.T) {
	for i, x := range []struct {
		kind int
		l, r api.Bag
		want api.Errno
	}{
		{0, bagOf("1000 1"), bagOf("1000 1"), api.OK},
		{0, bagOf("1001 1"), bagOf("1000 1"), api.ErrLimit},
		{0, bagOf("1000000 1"), bagOf("1000000 1"), api.ErrLimit},
		{1, bagOf("1000000 1"), bagOf("1000000 2"), api.OK},
		{3, bagOf("500000 ~"), bagOf("500000 ~"), api.OK},
		{3, bagOf("500001 ~"), bagOf("500000 ~"), api.ErrLimit},
	} {
		if b, e := Outer(x.kind, first(1), first(1), 1, 1, x.l, x.r); e != x.want || (e == api.OK) != (len(b) > 0) {
			t.Errorf("call %d: %v, %d, not %d", i, b, e, x.want)
		}
	}
	for i, x := range []struct {
		kind, left, key, right int
		want                   api.Errno
	}{
		{0, 20, 1, 20, api.OK},
		{0, 20, 1, 21, api.ErrLimit},
		{0, 400, 1, 1, api.OK},
		{0, 400, 2, 400, api.OK},
		{1, 400, 2, 400, api.OK},
		{2, 400, 2, 400, api.OK},
		{3, 200, 2, 200, api.OK},
		{3, 200, 2, 201, api.ErrLimit},
		{3, 400, 1, 400, api.ErrLimit},
	} {
		b, e := Outer(x.kind, first(1), first(1), 2, 2, manyItems(x.left, 1, 1), manyItems(x.right, x.key, 1))
		if e != x.want || e != api.OK && len(b) > 0 {
			t.Errorf("call %d: %d rows, %d, not %d", i, len(b), e, x.want)
		}
	}
	// Both bags' rows of nulls are one row, so of 401 without partners 400 are left.
	l := append(bagOf("1 ~,~"), manyItems(199, 1, 1)...)
	r := append(bagOf("1 ~,~"), manyItems(200, 2, 1)...)
	if b, e := Outer(3, first(1), first(1), 2, 2, l, r); len(b) != 400 || e != api.OK || b[0].N != 2 {
		t.Errorf("%d rows, %d", len(b), e)
	}
}
