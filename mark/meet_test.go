package mark

import (
	"math"
	"slices"
	"testing"

	"tidewright/api"
)

func newMeet(t *testing.T, inputs int) *Meet {
	t.Helper()
	m, e := NewMeet(inputs)
	if e != api.OK {
		t.Fatalf("NewMeet(%d) = %d", inputs, e)
	}
	return m
}

// checkMeet holds a meet against its mark, its inputs' marks, and which are idle (I, others are points).
func checkMeet(t *testing.T, what string, m *Meet, mark int, inputs []int, idle string) {
	t.Helper()
	if m.Mark() != mark || !slices.Equal(m.Inputs(), inputs) {
		t.Errorf("%s: the mark %d of %v, not %d of %v", what, m.Mark(), m.Inputs(), mark, inputs)
	}
	for i := range idle {
		if m.IsIdle(i) != (idle[i] == 'I') {
			t.Errorf("%s: IsIdle(%d) = %t", what, i, m.IsIdle(i))
		}
	}
	for _, i := range []int{-1, len(inputs), math.MinInt, math.MaxInt} {
		if m.IsIdle(i) {
			t.Errorf("%s: IsIdle(%d), which there is not", what, i)
		}
	}
}

// Promise 6.2.
func TestNewMeet(t *testing.T) {
	for n := 1; n <= api.MaxInputs; n++ {
		checkMeet(t, "a new meet", newMeet(t, n), -maxTime, slices.Repeat([]int{-maxTime}, n), "........"[:n])
	}
	for _, n := range []int{0, -1, api.MaxInputs + 1, math.MinInt, math.MaxInt} {
		if m, e := NewMeet(n); m != nil || e != api.ErrRange {
			t.Errorf("NewMeet(%d) = %v, %d", n, m, e)
		}
	}
}

// step is a call to a meet of two inputs, and what is there behind it.
type step struct {
	call  string // set, idle, busy, close
	input int
	to    int // of set
	want  api.Errno
	mark  int
	marks [2]int
	idle  string
}

func run(t *testing.T, name string, steps []step) {
	t.Helper()
	m := newMeet(t, 2)
	for i, s := range steps {
		var e api.Errno
		switch s.call {
		case "set":
			e = m.Set(s.input, s.to)
		case "idle":
			e = m.Idle(s.input)
		case "busy":
			e = m.Busy(s.input)
		case "close":
			e = m.Close(s.input)
		}
		if e != s.want {
			t.Errorf("%s, step %d: %s %d = %d", name, i, s.call, s.input, e)
		}
		checkMeet(t, name, m, s.mark, s.marks[:], s.idle)
	}
}

const end = maxTime + 1

// Promises 6.2 and P6.3.
func TestMeet(t *testing.T) {
	const no = -maxTime
	run(t, "the chapter's example", []step{
		{"set", 0, 8, api.OK, no, [2]int{8, no}, ".."}, {"set", 1, 3, api.OK, 3, [2]int{8, 3}, ".."}, {"idle", 1, 0, api.OK, 8, [2]int{8, 3}, ".I"},
		// Busy again with a mark below the one that stands: this does not go back.
		{"busy", 1, 0, api.OK, 8, [2]int{8, 3}, ".."}, {"set", 1, 5, api.OK, 8, [2]int{8, 5}, ".."}, {"set", 1, 9, api.OK, 8, [2]int{8, 9}, ".."}, {"set", 0, 12, api.OK, 9, [2]int{12, 9}, ".."},
	})
	run(t, "all idle", []step{
		{"set", 0, 8, api.OK, no, [2]int{8, no}, ".."}, {"idle", 0, 0, api.OK, no, [2]int{8, no}, "I."}, {"idle", 1, 0, api.OK, no, [2]int{8, no}, "II"}, {"idle", 1, 0, api.OK, no, [2]int{8, no}, "II"},
		{"busy", 0, 0, api.OK, 8, [2]int{8, no}, ".I"}, {"idle", 0, 0, api.OK, 8, [2]int{8, no}, "II"}, {"busy", 1, 0, api.OK, 8, [2]int{8, no}, "I."},
	})
	run(t, "a mark makes an input busy", []step{
		{"idle", 0, 0, api.OK, no, [2]int{no, no}, "I."}, {"idle", 1, 0, api.OK, no, [2]int{no, no}, "II"}, {"set", 1, 6, api.OK, 6, [2]int{no, 6}, "I."},
		{"set", 0, 4, api.OK, 6, [2]int{4, 6}, ".."}, {"idle", 0, 0, api.OK, 6, [2]int{4, 6}, "I."}, {"set", 0, 4, api.OK, 6, [2]int{4, 6}, ".."}, {"set", 1, 9, api.OK, 6, [2]int{4, 9}, ".."},
	})
	run(t, "no mark of an input goes back", []step{
		{"set", 0, 5, api.OK, no, [2]int{5, no}, ".."}, {"set", 0, 4, api.ErrState, no, [2]int{5, no}, ".."}, {"idle", 0, 0, api.OK, no, [2]int{5, no}, "I."},
		{"set", 0, 4, api.ErrState, no, [2]int{5, no}, "I."}, {"set", 0, 5, api.OK, no, [2]int{5, no}, ".."}, {"set", 1, no, api.OK, no, [2]int{5, no}, ".."},
	})
	run(t, "closed", []step{
		{"set", 1, 5, api.OK, no, [2]int{no, 5}, ".."}, {"close", 0, 0, api.OK, 5, [2]int{end, 5}, ".."}, {"close", 0, 0, api.ErrState, 5, [2]int{end, 5}, ".."}, {"idle", 0, 0, api.ErrState, 5, [2]int{end, 5}, ".."},
		{"busy", 0, 0, api.ErrState, 5, [2]int{end, 5}, ".."}, {"set", 0, maxTime, api.ErrState, 5, [2]int{end, 5}, ".."}, {"set", 0, end, api.OK, 5, [2]int{end, 5}, ".."}, {"idle", 0, 0, api.ErrState, 5, [2]int{end, 5}, ".."},
		// Closed and idle inputs alone: the greatest mark.
		{"idle", 1, 0, api.OK, end, [2]int{end, 5}, ".I"}, {"busy", 1, 0, api.OK, end, [2]int{end, 5}, ".."}, {"close", 1, 0, api.OK, end, [2]int{end, end}, ".."},
	})
	run(t, "an idle input that is closed counts as busy", []step{
		{"idle", 0, 0, api.OK, no, [2]int{no, no}, "I."}, {"idle", 1, 0, api.OK, no, [2]int{no, no}, "II"}, {"close", 1, 0, api.OK, end, [2]int{no, end}, "I."},
	})
	run(t, "the greatest mark does not close", []step{
		{"set", 0, end, api.OK, no, [2]int{end, no}, ".."}, {"set", 0, maxTime, api.ErrState, no, [2]int{end, no}, ".."}, {"idle", 0, 0, api.OK, no, [2]int{end, no}, "I."}, {"busy", 0, 0, api.OK, no, [2]int{end, no}, ".."},
		{"close", 0, 0, api.OK, no, [2]int{end, no}, ".."}, {"idle", 0, 0, api.ErrState, no, [2]int{end, no}, ".."}, {"set", 1, end, api.OK, end, [2]int{end, end}, ".."},
	})
}

// Promise 6.2: errors in their order; nothing changes with one.
func TestMeetErrors(t *testing.T) {
	m := newMeet(t, 2)
	m.Set(0, 8)
	m.Set(1, 3)
	m.Close(0)
	m.Idle(1)
	for _, input := range []int{-1, 2, 8, math.MinInt, math.MaxInt} {
		for _, e := range []api.Errno{m.Set(input, 9), m.Set(input, end+1), m.Idle(input), m.Busy(input), m.Close(input)} {
			if e != api.ErrRange {
				t.Errorf("input %d: %d", input, e)
			}
		}
	}
	for _, mark := range []int{-maxTime - 1, maxTime + 2, math.MinInt, math.MaxInt} {
		for input := range 2 {
			if e := m.Set(input, mark); e != api.ErrRange {
				t.Errorf("Set(%d, %d) = %d", input, mark, e)
			}
		}
	}
	checkMeet(t, "behind errors", m, end, []int{end, 3}, ".I")
}

// Promise 6.2.
func TestHeld(t *testing.T) {
	m := newMeet(t, 5)
	check := func(drift int, want ...int) {
		t.Helper()
		if l, e := m.Held(drift); !slices.Equal(l, want) || e != api.OK {
			t.Errorf("Held(%d) = %v, %d, not %v", drift, l, e, want)
		}
	}
	check(0)
	for i, mark := range []int{20, 5, 10, 5, 11} {
		m.Set(i, mark)
	}
	check(0, 0, 2, 4)
	check(4, 0, 2, 4)
	check(5, 0, 4)
	check(6, 0)
	check(14, 0)
	check(15)
	check(maxSpan)
	// Idle ones are not held, and hold nobody.
	m.Idle(0)
	check(5, 4)
	m.Idle(1)
	check(5, 4)
	m.Idle(3)
	check(0, 4)
	check(1)
	// Closed ones are held by others, not by each other.
	m.Close(1)
	m.Busy(0)
	check(0, 0, 1, 4)
	check(maxSpan, 1)
	m.Idle(0)
	m.Idle(2)
	m.Idle(4)
	check(0)
	m.Set(3, end)
	check(0)
	m.Close(3)
	m.Close(0)
	check(0)
	// An input whose own mark is below the meet's holds the others by its own.
	m.Busy(2)
	if m.Mark() != end {
		t.Errorf("the mark %d", m.Mark())
	}
	check(0, 0, 1, 3)

	m = newMeet(t, 3)
	m.Set(0, 9)
	for i := range 3 {
		m.Idle(i)
	}
	check(0)
	m = newMeet(t, 2)
	m.Close(1)
	check(maxSpan, 1)
	m.Set(0, maxTime)
	check(0, 1)
	check(1)
	for _, drift := range wrongSpans() {
		if l, e := m.Held(drift); len(l) != 0 || e != api.ErrRange {
			t.Errorf("Held(%d) = %v, %d", drift, l, e)
		}
	}
}
