package pair

import (
	"math"
	"testing"

	"tidewright/api"
)

// Promise 9.1: Versions.
func TestVersions(t *testing.T) {
	for _, x := range []struct {
		on, others []int
		width      int
		l, r       string
		want       string
	}{
		{first(1), first(1), 2, "10 1,7; 3 1,7; 10 2,7", "10 1,2; 4 1,1; 10 1,1; 11 1,9", "3 1,7,~,~; 10 1,7,1,2; 10 2,7,~,~"},
		{first(1), first(1), 2, "10 1", "9 1,9; 10 1,1; 11 1,5", "10 1,1,1"},
		{first(1), first(1), 2, "10 1", "10 1,~; 10 1,\"a\"; 10 1,7", "10 1,1,\"a\""},
		{first(1), first(1), 2, "10 1", "5 1,1; 5 1,2; 4 1,9", "10 1,1,2"},
		{first(1), first(1), 1, "10 ~", "5 ~", "10 ~,~"},
		{first(1), first(1), 1, "10 1", "10 \"1\"", "10 1,~"},
		{nil, nil, 1, "3 2; 1 5", "2 7; 0 8", "1 5,8; 3 2,7"},
		{nil, nil, 0, "3 2", "2 ", "3 2"},
		{nil, nil, 0, "3 2", "", "3 2"},
		{nil, nil, 3, "3 2,2; 3 2,2; 3 1", "", "3 1,~,~,~; 3 2,2,~,~,~; 3 2,2,~,~,~"},
		{[]int{1}, []int{2}, 3, "0 5,6", "0 6,5,5; -1 5,5,6", "0 5,6,5,5,6"},
		{first(2), []int{1, 0}, 2, "0 5,6", "0 6,5; 0 5,6", "0 5,6,6,5"},
		{first(1), first(1), 2, "1 1; 2 1; 3 1; 4 1", "2 1,1; 2 1,1; 4 1,0", "1 1,~,~; 2 1,1,1; 3 1,1,1; 4 1,1,0"},
		{nil, nil, 1, "1000000000000 1; -1000000000000 2", "-1000000000000 7", "-1000000000000 2,7; 1000000000000 1,7"},
		{nil, nil, 8, "0 ", "0 1,2,3,4,5,6,7,8", "0 1,2,3,4,5,6,7,8"},
		{nil, nil, 8, "", "0 1,2,3,4,5,6,7,8", ""},
		{first(7), first(7), 7, "", "", ""},
	} {
		got, e := Versions(x.on, x.others, x.width, eventsOf(x.l), eventsOf(x.r))
		checkEvents(t, x.l+" with "+x.r, got, e, x.want, api.OK)
	}
}

// Promise 9.1: the errors of Versions, in their order.
func TestVersionsErrors(t *testing.T) {
	one, nine := eventsOf("0 1"), make([]int, 9)
	for i, wrong := range wrongEvents() {
		_, e := Versions(first(1), nil, 9, wrong, one)
		_, f := Versions(nine, []int{-1}, -1, one, wrong)
		if e != api.ErrInvalid || f != api.ErrInvalid {
			t.Errorf("wrong events %d: %d, %d", i, e, f)
		}
	}
	for i, x := range []struct {
		on, others []int
		width      int
		l, r       []api.Event
		want       api.Errno
	}{
		{first(1), nil, 9, one, nil, api.ErrSize},
		{nil, []int{-1}, 1, one, one, api.ErrSize},
		{nine, nine, 1, nil, nil, api.ErrSize},
		{[]int{-1}, first(1), 2, one, one, api.ErrSize},
		{nil, nil, 9, one, one, api.ErrSize},
		{nil, nil, -1, one, one, api.ErrSize},
		{nil, nil, 1, one, eventsOf("0 1; 0 1,2"), api.ErrSize},
		{nil, nil, 1, one, eventsOf("0 1; 0 "), api.ErrSize},
		{nil, nil, 9, one, nil, api.ErrRange},
		{nil, nil, -1, one, nil, api.ErrRange},
		{first(1), first(1), math.MinInt, nil, nil, api.ErrRange},
		{first(1), first(1), math.MaxInt, nil, nil, api.ErrRange},
		{[]int{1}, first(1), 1, one, one, api.ErrRange},
		{[]int{1}, first(1), 1, eventsOf("0 1,2; 0 1"), one, api.ErrRange},
		{first(1), []int{1}, 1, one, one, api.ErrRange},
		{first(1), []int{1}, 1, nil, nil, api.ErrRange},
		{first(1), first(1), 0, one, nil, api.ErrRange},
		{[]int{8}, first(1), 1, nil, one, api.ErrRange},
		{[]int{7}, first(1), 1, nil, one, api.OK},
		{[]int{-1}, first(1), 1, nil, one, api.ErrRange},
		{first(1), []int{-1}, 1, one, one, api.ErrRange},
		{[]int{2}, first(1), 7, eventsOf("0 1,2"), nil, api.ErrRange},
		{[]int{1}, first(1), 7, eventsOf("0 1,2; 0 1"), nil, api.ErrRange},
		{nil, nil, 8, one, nil, api.ErrLimit},
		{nil, nil, 7, one, nil, api.OK},
		{nil, nil, 7, eventsOf("0 1; 0 1,2"), nil, api.ErrLimit},
		{nil, nil, 2, manyEvents(100), manyEvents(100), api.OK},
	} {
		l, e := Versions(x.on, x.others, x.width, x.l, x.r)
		if e != x.want || e != api.OK && len(l) > 0 || e == api.OK && len(l) != len(x.l) {
			t.Errorf("call %d: %d events, %d, not %d", i, len(l), e, x.want)
		}
	}
}
