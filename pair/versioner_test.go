package pair

import (
	"math"
	"strings"
	"testing"

	"tidewright/api"
)

func newVersioner(t *testing.T, on, others []int, width int) *Versioner {
	t.Helper()
	v, e := NewVersioner(on, others, width)
	if v == nil || e != api.OK {
		t.Fatalf("NewVersioner(%v, %v, %d) = %d", on, others, width, e)
	}
	return v
}

// runVersioner tells a versioner lines: `left TIME ROW`, `right TIME ROW` or `mark M`.
func runVersioner(t *testing.T, v *Versioner, script string) {
	t.Helper()
	run(t, script, func(line string) (string, api.Errno) {
		switch call, rest, _ := strings.Cut(line, " "); call {
		case "left":
			return "", v.Left(event(rest))
		case "right":
			return "", v.Right(event(rest))
		case "mark":
			m, _ := asNumber(rest)
			l, e := v.Mark(m)
			return shownEvents(l), e
		}
		panic("no call: " + line)
	}, func() string { return "" })
}

// Promise 9.3: each left event is told when the mark has passed it, with the newest version.
func TestVersioner(t *testing.T) {
	runVersioner(t, newVersioner(t, first(1), first(1), 2), `
		mark -1000000000000 =
		left 10 1,7 =
		left 3 1,7 =
		left 10 2,7 =
		mark 3 =
		mark 4 = 3 1,7,~,~
		mark 4 =
		right 10 1,2 =
		right 4 1,1 =
		right 10 1,1 =
		right 11 1,9 =
		right 3 2,0 = ErrLate
		left 3 2,0 = ErrLate
		mark 10 =
		left 9 1,1 = ErrLate
		right 9 1,5 = ErrLate
		right 10 2,~ =
		left 10 1,7 =
		mark 9 = ErrRange
		mark 11 = 10 1,7,1,2; 10 1,7,1,2; 10 2,7,2,~
		left 11 1,8 =
		left 12 ~ =
		left 11 1,6 =
		right 11 ~,1 =
		right 12 1,0 =
		left 12 1 =
		mark 1000000000001 = 11 1,6,1,9; 11 1,8,1,9; 12 ~,~,~; 12 1,1,0
		mark 1000000000001 =
		left 1000000000000 1 = ErrLate
		mark 1000000000000 = ErrRange
		mark 1000000000002 = ErrRange
	`)
}

// Promise 9.3: a version stays for what comes later, however much later, and of those of one time the greatest row.
func TestVersionerKeeps(t *testing.T) {
	runVersioner(t, newVersioner(t, nil, nil, 1), `
		right -1000000000000 9 =
		right -1000000000000 8 =
		mark -999999999999 =
		mark -5 =
		left 1000000000000 1 =
		left -5 2 =
		mark 0 = -5 2,9
		right 0 3 =
		right 1 2 =
		right 7 1 =
		left 5 0 =
		mark 3 =
		mark 5 =
		mark 6 = 5 0,2
		left 6 4 =
		left 7 4 =
		mark 8 = 6 4,2; 7 4,1
		mark 1000000000001 = 1000000000000 1,1
	`)
	runVersioner(t, newVersioner(t, first(1), []int{1}, 2), `
		left 5 1,1 =
		left 5 1 =
		right 5 7,1 =
		right 6 8,1 =
		mark 6 = 5 1,1,7,1; 5 1,7,1
	`)
}

// Promise 9.3: the errors of a versioner's methods, in their order.
func TestVersionerErrors(t *testing.T) {
	v := newVersioner(t, []int{1}, first(1), 5)
	v.Mark(5)
	for _, l := range wrongEvents() {
		if e, f := v.Left(l[len(l)-1]), v.Right(l[len(l)-1]); len(l) < 3 && (e != api.ErrInvalid || f != api.ErrInvalid) {
			t.Errorf("Left(%v) = %d, Right = %d", l[len(l)-1], e, f)
		}
	}
	runVersioner(t, v, `
		left 4 1 = ErrRange
		left 4 1,2,3,4 = ErrLate
		left 5 1,2,3,4 = ErrLimit
		left 5 1,2,3 =
		right 4 1,2,3,4 = ErrSize
		right 4 1,2,3,4,5,6 = ErrSize
		right 4 1,2,3,4,5 = ErrLate
		right 5 2,2,3,4,5 =
		mark 4 = ErrRange
		mark 6 = 5 1,2,3,2,2,3,4,5
	`)
}

// Promise 9.3: MaxRows left events may wait, and as many right ones are told in all.
func TestVersionerLimit(t *testing.T) {
	v := newVersioner(t, nil, nil, 1)
	tell := func(call func(api.Event) api.Errno, time, from, to int) api.Errno {
		for i := from; i < to; i++ {
			if e := call(api.Event{Time: time, Row: api.Row{num(i / 2)}}); e != api.OK {
				return e
			}
		}
		return api.OK
	}
	if e := tell(v.Left, 0, 0, 300); e != api.OK {
		t.Fatalf("Left = %d", e)
	}
	if e := tell(v.Left, 1, 300, 400); e != api.OK {
		t.Fatalf("Left = %d", e)
	}
	if e := v.Left(event("5 1")); e != api.ErrLimit {
		t.Errorf("Left of the event 401 = %d", e)
	}
	if l, e := v.Mark(1); len(l) != 300 || e != api.OK {
		t.Errorf("Mark: %d events, %d", len(l), e)
	}
	if e := tell(v.Left, 5, 0, 300); e != api.OK {
		t.Errorf("Left = %d", e)
	}
	if e := v.Left(event("5 1")); e != api.ErrLimit {
		t.Errorf("Left of the event 401 that waits = %d", e)
	}
	for i := range 400 {
		if e := v.Right(api.Event{Time: 1 + i/100, Row: api.Row{num(i)}}); e != api.OK {
			t.Fatalf("Right = %d", e)
		}
		if e := v.Right(event("0 1")); e != api.ErrLate {
			t.Fatalf("Right = %d", e)
		}
	}
	l, e := v.Mark(5)
	if len(l) != 100 || e != api.OK || shownEvents(l[:1]) != "1 150,99" {
		t.Errorf("Mark: %d events, %d", len(l), e)
	}
	if e := v.Right(event("5 1")); e != api.ErrLimit {
		t.Errorf("Right of the event 401 = %d", e)
	}
	if e := v.Right(event("4 1")); e != api.ErrLate {
		t.Errorf("Right of a late event = %d", e)
	}
	if l, e := v.Mark(end); len(l) != 300 || e != api.OK || shownEvents(l[299:]) != "5 149,399" {
		t.Errorf("Mark: %d events, %d", len(l), e)
	}
}

// Promise 9.3: a versioner forgets versions that nobody can ask for.
func TestVersionerForgets(t *testing.T) {
	v := newVersioner(t, first(1), first(1), 2)
	for i := range 300 {
		v.Right(api.Event{Time: i / 3, Row: api.Row{num(i % 2), num(i)}})
	}
	v.Mark(90)
	if n := v.right.size(); n != 32 {
		t.Errorf("%d versions are kept", n)
	}
	v.Mark(end)
	if n := v.right.size(); n != 2 {
		t.Errorf("%d versions are kept", n)
	}
}

// Promise 9.3: the errors of NewVersioner, and of versioners that it did not make.
func TestNewVersioner(t *testing.T) {
	nine := make([]int, 9)
	for i, x := range []struct {
		on, others []int
		width      int
		want       api.Errno
	}{
		{nil, nil, 0, api.OK},
		{nil, nil, 8, api.OK},
		{first(8), first(8), 8, api.OK},
		{[]int{7}, []int{0}, 1, api.OK},
		{first(1), nil, 9, api.ErrSize},
		{nil, []int{-1}, 1, api.ErrSize},
		{nine, nine, -1, api.ErrSize},
		{nil, nil, -1, api.ErrRange},
		{nil, nil, 9, api.ErrRange},
		{nil, nil, math.MinInt, api.ErrRange},
		{first(1), first(1), math.MinInt, api.ErrRange},
		{first(1), first(1), math.MaxInt, api.ErrRange},
		{[]int{8}, first(1), 1, api.ErrRange},
		{[]int{-1}, first(1), 1, api.ErrRange},
		{first(1), []int{1}, 1, api.ErrRange},
		{first(1), []int{-1}, 1, api.ErrRange},
		{first(1), first(1), 0, api.ErrRange},
	} {
		if v, e := NewVersioner(x.on, x.others, x.width); e != x.want || (e == api.OK) != (v != nil) {
			t.Errorf("call %d: %v, %d, not %d", i, v, e, x.want)
		}
	}
	for _, v := range []*Versioner{nil, {}} {
		e, f := v.Left(event("0 1")), v.Right(api.Event{Time: math.MaxInt})
		if l, g := v.Mark(math.MinInt); e != api.ErrInvalid || f != api.ErrInvalid || g != api.ErrInvalid || len(l) > 0 {
			t.Errorf("%v: %d, %d, %d", v, e, f, g)
		}
	}
	if _, e := newVersioner(t, nil, nil, 0).Mark(-maxTime - 1); e != api.ErrRange {
		t.Errorf("Mark = %d", e)
	}
}
