package pair

import (
	"math"
	"strconv"
	"testing"

	"tidewright/api"
)

// Promise 9.1: Intervals.
func TestIntervals(t *testing.T) {
	for _, x := range []struct {
		on, others []int
		low, high  int
		l, r       string
		want       string
	}{
		{first(1), first(1), -3, 5, "10 1,7", "7 1,1; 12 1,2; 16 1,3", "10 1,7,1,1; 12 1,7,1,2"},
		{first(1), first(1), -3, 5, "10 1", "6 1; 7 1; 15 1; 16 1", "10 1,1; 15 1,1"},
		{first(1), first(1), -3, 5, "10 1", "7 2; 8 ~; 9 \"1\"", ""},
		{first(1), first(1), 0, 0, "5 ~", "5 ~", ""},
		{first(1), first(1), 0, 0, "4 1; 5 1", "5 1; 6 1", "5 1,1"},
		{first(1), first(1), 2, 4, "0 1", "1 1,1; 2 1,2; 4 1,4; 5 1,5", "2 1,1,2; 4 1,1,4"},
		{first(1), first(1), -4, -2, "0 1", "-5 1,5; -4 1,4; -2 1,2; -1 1,1", "0 1,1,2; 0 1,1,4"},
		{nil, nil, -1, 1, "0 1; 5 2", "1 3; 4 ~,~", "1 1,3; 5 2,~,~"},
		{[]int{1, 0}, first(2), 0, 0, "0 1,2", "0 2,1; 0 1,2", "0 1,2,2,1"},
		{[]int{0, 0}, first(2), 0, 0, "0 1", "0 1,1; 0 1,2", "0 1,1,1"},
		{first(1), first(1), 0, 9, "2 1,5; 1 1,6; 2 1,5", "3 1,1; 3 1,1; 2 1,2", "2 1,5,1,2; 2 1,5,1,2; 2 1,6,1,2; " +
			"3 1,5,1,1; 3 1,5,1,1; 3 1,5,1,1; 3 1,5,1,1; 3 1,6,1,1; 3 1,6,1,1"},
		{first(1), first(1), 0, 9, "0 1,1; 0 1", "0 1; 0 1,1", "0 1,1; 0 1,1,1; 0 1,1,1; 0 1,1,1,1"},
		{nil, nil, -api.MaxSpan, api.MaxSpan, "0 1", "1000000000 2; -1000000000 3; 1000000001 4; -1000000001 5", "0 1,3; 1000000000 1,2"},
		{nil, nil, -1, 1, "1000000000000 1; -1000000000000 2", "999999999999 1; -999999999999 2; 0 0", "-999999999999 2,2; 1000000000000 1,1"},
		{nil, nil, 0, 0, "", "0 1", ""},
		{nil, nil, 0, 0, "0 1", "", ""},
		{nil, nil, 0, 0, "0 ", "0 1,2,3,4,5,6,7,8", "0 1,2,3,4,5,6,7,8"},
		{first(7), first(7), 5, 5, "", "", ""},
		{first(1), first(1), 0, 0, "0 1,2,3,4,5", "0 2,3,4,5; 1 1,3,4,5", ""},
	} {
		got, e := Intervals(x.on, x.others, x.low, x.high, eventsOf(x.l), eventsOf(x.r))
		checkEvents(t, x.l+" with "+x.r, got, e, x.want, api.OK)
	}
}

// Promise 9.1: the errors of Intervals, in their order.
func TestIntervalsErrors(t *testing.T) {
	one, nine := eventsOf("0 1"), make([]int, 9)
	for i, wrong := range wrongEvents() {
		_, e := Intervals(first(1), nil, 1, 0, wrong, one)
		_, f := Intervals(nine, []int{-1}, 1, 0, one, wrong)
		if e != api.ErrInvalid || f != api.ErrInvalid {
			t.Errorf("wrong events %d: %d, %d", i, e, f)
		}
	}
	wide := eventsOf("0 1,2,3,4,5")
	for i, x := range []struct {
		on, others []int
		low, high  int
		l, r       []api.Event
		want       api.Errno
	}{
		{first(1), nil, 1, 0, one, one, api.ErrSize},
		{nil, []int{5}, 1, 0, one, one, api.ErrSize},
		{nine, nine, 0, 0, nil, nil, api.ErrSize},
		{nine, first(8), 0, 0, nil, nil, api.ErrSize},
		{[]int{1}, first(1), 0, 0, one, one, api.ErrRange},
		{first(1), []int{1}, 0, 0, one, one, api.ErrRange},
		{[]int{1}, []int{1}, 0, 0, eventsOf("0 1,2; 5 1"), eventsOf("0 1,2"), api.ErrRange},
		{[]int{1}, []int{1}, 0, 0, eventsOf("0 1,2"), eventsOf("0 1,2; 5 1"), api.ErrRange},
		{[]int{-1}, first(1), 0, 0, nil, nil, api.ErrRange},
		{first(1), []int{math.MinInt}, 0, 0, nil, nil, api.ErrRange},
		{[]int{8}, first(1), 0, 0, nil, nil, api.ErrRange},
		{first(1), []int{8}, 0, 0, nil, nil, api.ErrRange},
		{nil, nil, 1, 0, one, one, api.ErrRange},
		{nil, nil, -api.MaxSpan - 1, 0, one, one, api.ErrRange},
		{nil, nil, 0, api.MaxSpan + 1, one, one, api.ErrRange},
		{nil, nil, math.MinInt, math.MaxInt, one, one, api.ErrRange},
		{nil, nil, math.MaxInt, math.MinInt, one, one, api.ErrRange},
		{nil, nil, 1, 0, wide, wide, api.ErrRange},
		{nil, nil, 0, 0, wide, wide, api.ErrLimit},
		{nil, nil, 0, 0, wide, eventsOf("0 1,2,3"), api.OK},
		{nil, nil, 0, 0, manyEvents(20), manyEvents(20), api.OK},
		{nil, nil, 0, 0, manyEvents(20), manyEvents(21), api.ErrLimit},
		{first(1), first(1), 0, 0, append(manyEvents(20), eventsOf("0 2")...), append(manyEvents(20), eventsOf("0 2")...), api.ErrLimit},
		{nil, nil, 0, 0, manyEvents(100), manyEvents(4), api.OK},
		{nil, nil, 0, 0, manyEvents(4), manyEvents(100), api.OK},
		{nil, nil, 0, 0, manyEvents(100), manyEvents(100), api.ErrLimit},
		{nil, nil, 1, 1, manyEvents(100), manyEvents(100), api.OK},
		{nil, nil, 0, 0, make([]api.Event, 20), make([]api.Event, 20), api.OK},
		{nil, nil, 0, 0, make([]api.Event, 21), make([]api.Event, 20), api.ErrLimit},
	} {
		l, e := Intervals(x.on, x.others, x.low, x.high, x.l, x.r)
		if e != x.want || e != api.OK && len(l) > 0 {
			t.Errorf("call %d: %d events, %d, not %d", i, len(l), e, x.want)
		}
	}
	l, _ := Intervals(first(1), first(1), 0, 0, manyEvents(100), manyEvents(4))
	if len(l) != 400 || shownEvents(l[:5]) != "0 1,0,1,0; 0 1,0,1,1; 0 1,0,1,2; 0 1,0,1,3; 0 1,1,1,0" {
		t.Errorf("%d events, %s", len(l), strconv.Quote(shownEvents(l[:min(len(l), 5)])))
	}
}
