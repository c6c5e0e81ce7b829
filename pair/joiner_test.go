package pair

import (
	"math"
	"strconv"
	"strings"
	"testing"

	"tidewright/api"
	"tidewright/bag"
)

// errno returns the error of a name, and that there is none for all else.
func errno(name string) api.Errno {
	names := map[string]api.Errno{
		"ErrInvalid": api.ErrInvalid, "ErrSize": api.ErrSize, "ErrRange": api.ErrRange,
		"ErrLate": api.ErrLate, "ErrState": api.ErrState, "ErrLimit": api.ErrLimit,
	}
	return names[name]
}

// run tells lines, behind a `=` with what they give or the error, and checks that nothing that state shows changes with an error.
func run(t *testing.T, script string, tell func(line string) (string, api.Errno), state func() string) {
	t.Helper()
	for line := range strings.Lines(strings.TrimSpace(script)) {
		words, want, ok := strings.Cut(strings.TrimSpace(line), " =")
		if !ok {
			panic("no line: " + line)
		}
		want = strings.TrimSpace(want)
		before := state()
		got, e := tell(words)
		switch {
		case e != errno(want):
			t.Errorf("%s: error %d, not %q", words, e, want)
		case e == api.OK && got != want:
			t.Errorf("%s: %q, not %q", words, got, want)
		case e != api.OK && (got != "" || state() != before):
			t.Errorf("%s: with the error %d %q, and %s of %s", words, e, got, state(), before)
		}
	}
}

func newJoiner(t *testing.T, on, others []int, low, high int) *Joiner {
	t.Helper()
	j, e := NewJoiner(on, others, low, high)
	if j == nil || e != api.OK {
		t.Fatalf("NewJoiner(%v, %v, %d, %d) = %d", on, others, low, high, e)
	}
	return j
}

// tell is one of both sides' methods of a joiner or a keeper.
type tell = func(c api.Change) ([]api.Change, api.Errno)

// runSides tells lines `left TIME N ROW` or `right TIME N ROW` to both sides, and all others to other.
func runSides(t *testing.T, script string, left, right tell, other func(call, rest string) (string, api.Errno), state func() string) {
	t.Helper()
	run(t, script, func(line string) (string, api.Errno) {
		call, rest, _ := strings.Cut(line, " ")
		side := map[string]tell{"left": left, "right": right}[call]
		if side == nil {
			return other(call, rest)
		}
		l, e := side(change(rest))
		return shownChanges(l), e
	}, state)
}

// runJoiner tells a joiner lines: `left TIME N ROW`, `right TIME N ROW`, `mark M` or `held`.
func runJoiner(t *testing.T, j *Joiner, script string) {
	t.Helper()
	held := func() string {
		l, r := j.Held()
		return strconv.Itoa(l) + " " + strconv.Itoa(r)
	}
	runSides(t, script, j.Left, j.Right, func(call, rest string) (string, api.Errno) {
		if call == "held" {
			return held(), api.OK
		}
		m, _ := asNumber(rest)
		l, e := j.Mark(m)
		return shownChanges(l), e
	}, held)
}

// Promise 9.2: the chapter's example, with numbers and taking back.
func TestJoiner(t *testing.T) {
	runJoiner(t, newJoiner(t, first(1), first(1), -3, 5), `
		held = 0 0
		right 7 2 1,1 =
		right 6 1 1,0 =
		right 8 1 2,0 =
		left 10 3 1,7 = 10 6 1,7,1,1
		held = 1 3
		right 12 1 1,2 = 12 3 1,7,1,2
		right 15 1 1,3 = 15 3 1,7,1,3
		right 16 1 1,4 =
		right 12 -1 1,2 = 12 -3 1,7,1,2
		held = 1 5
		left 10 -4 1,7 = 10 -8 1,7,1,1; 15 -4 1,7,1,3
		left 9 1 1,7 = 9 1 1,7,1,0; 9 2 1,7,1,1
		right 7 -5 1,1 = 9 -5 1,7,1,1; 10 5 1,7,1,1
		left 10 1 1,7 = 10 -3 1,7,1,1; 15 1 1,7,1,3
		held = 1 5
		left 9 -1 1,7 = 9 -1 1,7,1,0; 9 3 1,7,1,1
		held = 0 5
		left 11 1 1 = 15 1 1,1,3; 16 1 1,1,4
	`)
}

// Promise 9.2: changes ascend by Row, then Time, and are not netted.
func TestJoinerOrder(t *testing.T) {
	runJoiner(t, newJoiner(t, nil, nil, -9, 9), `
		right 5 1 2 =
		right 4 1 3 =
		right 7 1 1 =
		right 6 1 2 =
		right 1 1 2 =
		right 2 -1 2 =
		left 5 2 9 = 7 2 9,1; 5 2 9,2; 5 -2 9,2; 5 2 9,2; 6 2 9,2; 5 2 9,3
		left 1 1 ~ = 7 1 ~,1; 1 1 ~,2; 2 -1 ~,2; 5 1 ~,2; 6 1 ~,2; 4 1 ~,3
		right 3 1 ~ = 3 1 ~,~; 5 2 9,~
		held = 2 7
	`)
	runJoiner(t, newJoiner(t, first(1), first(1), 0, 9), `
		left 0 1 ~ =
		right 0 1 ~ =
		left 0 1 "1" =
		right 0 1 1 =
		right 0 1 "1",~ = 0 1 "1","1",~
		held = 2 3
	`)
}

// Promise 9.2: ErrLate, and what a mark lets go.
func TestJoinerMark(t *testing.T) {
	runJoiner(t, newJoiner(t, first(1), first(1), -3, 5), `
		mark -1000000000000 =
		left 10 1 1,7 =
		right 10 1 1,1 = 10 1 1,7,1,1
		left 10 1 2,7 =
		left 10 1 ~ =
		left 12 1 2,7 =
		right 13 1 3,1 =
		mark 13 =
		held = 4 2
		mark 14 =
		mark 13 = ErrRange
		held = 4 1
		right 13 1 1,1 = ErrLate
		left 13 1 1,1 = ErrLate
		left 13 -1 1,1 = ErrLate
		right 14 1 1,2 = 14 1 1,7,1,2
		mark 15 =
		held = 4 2
		mark 16 =
		held = 1 2
		mark 16 =
		right 16 1 2,0 = 16 1 2,7,2,0
		mark 17 =
		held = 1 2
		mark 18 =
		held = 0 1
		mark 20 =
		held = 0 0
		mark 1000000000002 = ErrRange
		mark 1000000000001 =
		mark 1000000000000 = ErrRange
		left 1000000000000 1 1 = ErrLate
	`)
	// Bounds on one side of 0: what comes behind its partners goes with the next mark.
	runJoiner(t, newJoiner(t, first(1), first(1), -10, -5), `
		right 2 1 1,2 =
		right 7 1 1,7 =
		mark 11 =
		held = 0 2
		left 12 1 1 = 12 1 1,1,2; 12 1 1,1,7
		mark 11 =
		held = 0 2
		mark 12 =
		held = 0 2
		mark 13 =
		held = 0 1
		left 15 -1 1 = 15 -1 1,1,7
	`)
	runJoiner(t, newJoiner(t, nil, nil, -1000000000, 1000000000), `
		left 1000000000000 1 1 =
		mark 1000000000001 =
		held = 1 0
	`)
}

// Promise 9.2: the errors of a joiner's methods, in their order.
func TestJoinerErrors(t *testing.T) {
	j := newJoiner(t, []int{1}, []int{2}, -3, 5)
	j.Mark(5)
	for _, c := range wrongChanges() {
		l, e := j.Left(c)
		r, f := j.Right(c)
		if e != api.ErrInvalid || f != api.ErrInvalid || len(l)+len(r) > 0 {
			t.Errorf("Left(%v) = %d, Right = %d", c, e, f)
		}
	}
	runJoiner(t, j, `
		left 4 1 1 = ErrRange
		right 4 1 1,2 = ErrRange
		left 4 1 1,2 = ErrLate
		right 4 1 1,2,3 = ErrLate
		left 5 1 7,7,7,7,7 =
		right 5 1 0,0,7,0 = ErrLimit
		right 11 1 0,0,7,0 =
		right 5 1 0,0,6,0 =
		right 5 1 0,0,7 = 5 1 7,7,7,7,7,0,0,7
		left 4 1000001 1,2 = ErrInvalid
		held = 1 3
	`)
	runJoiner(t, newJoiner(t, first(1), first(1), 0, 0), `
		left 0 1000000 1 =
		left 0 1 1 = ErrLimit
		left 1 1 1 =
		left 0 -2 1 =
		left 0 2 1 =
		right 0 1 1 = 0 1000000 1,1
		right 0 2 1 = ErrLimit
		right 0 -2 1 = ErrLimit
		right 0 -1 1 = 0 -1000000 1,1
		right 0 -1 1 = 0 -1000000 1,1
		right 0 -999999 1 = ErrLimit
		right 0 -1000000 ~ =
		right 0 -1 ~ = ErrLimit
		right 0 1 ~ =
		held = 2 2
	`)
}

// Promise 9.2: no more than MaxRows changes are given; what is kept may be more.
func TestJoinerLimit(t *testing.T) {
	j := newJoiner(t, first(1), first(1), 0, 0)
	for i := range 500 {
		if _, e := j.Left(api.Change{Row: api.Row{num(i / 400), num(i)}, N: 1}); e != api.OK {
			t.Fatalf("Left = %d", e)
		}
	}
	l, e := j.Right(change("0 1 0"))
	if len(l) != 400 || e != api.OK {
		t.Errorf("Right: %d changes, %d", len(l), e)
	}
	j.Left(change("0 1 0,\"more\""))
	if l, e := j.Right(change("0 1 0")); len(l) > 0 || e != api.ErrLimit {
		t.Errorf("Right: %d changes, %d", len(l), e)
	}
	if left, right := j.Held(); left != 501 || right != 1 {
		t.Errorf("Held = %d, %d", left, right)
	}
	if l, _ := j.Left(change("0 1 0")); len(l) != 1 || l[0].N != 1 {
		t.Errorf("Left = %q, as if the other one had been told twice", shownChanges(l))
	}
}

// Promise 9.2: the errors of NewJoiner, and of joiners that it did not make.
func TestNewJoiner(t *testing.T) {
	nine := make([]int, 9)
	for i, x := range []struct {
		on, others []int
		low, high  int
		want       api.Errno
	}{
		{nil, nil, 0, 0, api.OK},
		{first(8), first(8), -api.MaxSpan, api.MaxSpan, api.OK},
		{nil, nil, api.MaxSpan, api.MaxSpan, api.OK},
		{nil, nil, -api.MaxSpan, -api.MaxSpan, api.OK},
		{[]int{7, 7}, []int{0, 0}, 0, 0, api.OK},
		{first(1), nil, 1, 0, api.ErrSize},
		{nil, []int{-1}, 0, 0, api.ErrSize},
		{nine, nine, 1, 0, api.ErrSize},
		{[]int{8}, first(1), 0, 0, api.ErrRange},
		{first(1), []int{8}, 0, 0, api.ErrRange},
		{[]int{-1}, first(1), 0, 0, api.ErrRange},
		{first(1), []int{-1}, 0, 0, api.ErrRange},
		{nil, nil, 1, 0, api.ErrRange},
		{nil, nil, -api.MaxSpan - 1, 0, api.ErrRange},
		{nil, nil, 0, api.MaxSpan + 1, api.ErrRange},
		{nil, nil, math.MaxInt, math.MinInt, api.ErrRange},
	} {
		if j, e := NewJoiner(x.on, x.others, x.low, x.high); e != x.want || (e == api.OK) != (j != nil) {
			t.Errorf("call %d: %v, %d, not %d", i, j, e, x.want)
		}
	}
	for _, j := range []*Joiner{nil, {}} {
		_, e := j.Left(change("0 1 1"))
		_, f := j.Right(api.Change{})
		_, g := j.Mark(math.MinInt)
		l, r := j.Held()
		if e != api.ErrInvalid || f != api.ErrInvalid || g != api.ErrInvalid || l != 0 || r != 0 {
			t.Errorf("%v: %d, %d, %d, %d and %d", j, e, f, g, l, r)
		}
	}
	if _, e := newJoiner(t, nil, nil, 0, 0).Mark(-maxTime - 1); e != api.ErrRange {
		t.Errorf("Mark = %d", e)
	}
}

// Promise P9.2: each change that is given is one.
func TestJoinerGivesChanges(t *testing.T) {
	j := newJoiner(t, nil, nil, -2, 2)
	for _, s := range []string{"0 1000000 1", "1 -1000000 1", "2 1000 2"} {
		j.Right(change(s))
	}
	l, e := j.Left(change("0 1 5"))
	if e != api.OK || len(l) != 3 {
		t.Errorf("Left = %q, %d", shownChanges(l), e)
	}
	for _, c := range l {
		if !bag.ValidChange(c) {
			t.Errorf("%v is no change", c)
		}
	}
}
