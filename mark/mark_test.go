package mark

import (
	"math"
	"testing"

	"tidewright/api"
)

const (
	maxTime = api.MaxTime
	maxSpan = api.MaxSpan
)

// wrongSpans are numbers that are neither bounds nor drifts.
func wrongSpans() []int { return []int{-1, maxSpan + 1, math.MinInt, math.MaxInt} }

// wrongTimes are numbers that are no times.
func wrongTimes() []int { return []int{maxTime + 1, -maxTime - 1, math.MinInt, math.MaxInt} }

// Promise 6.3, and the detail that Late takes any two numbers.
func TestLate(t *testing.T) {
	for _, x := range []struct {
		time, mark int
		want       bool
	}{
		{7, 8, true}, {8, 8, false}, {9, 8, false}, {-3, -2, true}, {-2, -2, false}, {0, -2, false},
		{-maxTime, -maxTime, false}, {-maxTime, -maxTime + 1, true}, {maxTime, maxTime + 1, true}, {maxTime, maxTime, false},
		{math.MinInt, math.MaxInt, true}, {math.MaxInt, math.MinInt, false}, {math.MinInt, math.MinInt, false}, {-maxTime - 1, -maxTime, true}, {maxTime + 1, maxTime + 2, true},
	} {
		if got := Late(x.time, x.mark); got != x.want {
			t.Errorf("Late(%d, %d) = %t", x.time, x.mark, got)
		}
	}
}

// Promise P6.1, and the rule that methods of a nil receiver do nothing (R5).
func TestNil(t *testing.T) {
	var g *Gauge
	g.Close()
	for _, time := range []int{5, maxTime + 1} {
		if late, e := g.See(time); late || e != api.ErrInvalid {
			t.Errorf("See(%d) of nil = %t, %d", time, late, e)
		}
	}
	if g.Mark() != -maxTime || g.Closed() || g.Text() != "" {
		t.Errorf("a nil gauge: %d, %t, %q", g.Mark(), g.Closed(), g.Text())
	}
	var m *Meet
	for _, input := range []int{0, -1, 8} {
		for _, e := range []api.Errno{m.Set(input, 5), m.Set(input, maxTime+2), m.Idle(input), m.Busy(input), m.Close(input)} {
			if e != api.ErrInvalid {
				t.Errorf("a nil meet: %d", e)
			}
		}
		if m.IsIdle(input) {
			t.Error("IsIdle of nil")
		}
	}
	for _, drift := range []int{0, -1} {
		if l, e := m.Held(drift); len(l) != 0 || e != api.ErrInvalid {
			t.Errorf("Held(%d) of nil = %v, %d", drift, l, e)
		}
	}
	if m.Mark() != -maxTime || len(m.Inputs()) != 0 {
		t.Errorf("a nil meet: %d, %v", m.Mark(), m.Inputs())
	}
}

// Promise P6.1 of a gauge and a meet that nobody has made: no call panics, and nothing is late at first.
func TestUnmade(t *testing.T) {
	g := new(Gauge)
	if late, e := g.See(-maxTime); late || e != api.OK || g.Text() != "0 -999999999999" {
		t.Errorf("See = %t, %d, then %s", late, e, g.Text())
	}
	m := new(Meet)
	for _, e := range []api.Errno{m.Set(0, 5), m.Idle(0), m.Busy(0), m.Close(0)} {
		if e != api.ErrRange {
			t.Errorf("a meet without inputs: %d", e)
		}
	}
	if l, e := m.Held(0); len(l) != 0 || e != api.OK || m.Mark() != -maxTime || len(m.Inputs()) != 0 || m.IsIdle(0) {
		t.Errorf("a meet without inputs: %v, %d", l, e)
	}
}
