package mark

import (
	"slices"
	"strconv"
	"strings"
	"testing"

	"tidewright/api"
)

// newGauge returns a gauge that has seen times.
func newGauge(t *testing.T, bound int, times ...int) *Gauge {
	t.Helper()
	g, e := NewGauge(bound)
	if e != api.OK {
		t.Fatalf("NewGauge(%d) = %d", bound, e)
	}
	for _, time := range times {
		if _, e := g.See(time); e != api.OK {
			t.Fatalf("See(%d) = %d", time, e)
		}
	}
	return g
}

// checkGauge holds a gauge against its bound, its mark, and whether it is closed.
func checkGauge(t *testing.T, what string, g *Gauge, bound, mark int, closed bool) {
	t.Helper()
	text := strconv.Itoa(bound) + " " + strconv.Itoa(mark)
	if closed {
		text = strconv.Itoa(bound) + " closed"
	}
	if g.Mark() != mark || g.Closed() != closed || g.Text() != text {
		t.Errorf("%s: %d, %t, %q, not %d, %t, %q", what, g.Mark(), g.Closed(), g.Text(), mark, closed, text)
	}
}

// Promise 6.1.
func TestNewGauge(t *testing.T) {
	for _, bound := range []int{0, 1, 5, maxSpan} {
		checkGauge(t, "a new gauge", newGauge(t, bound), bound, -maxTime, false)
	}
	for _, bound := range wrongSpans() {
		if g, e := NewGauge(bound); g != nil || e != api.ErrRange {
			t.Errorf("NewGauge(%d) = %v, %d", bound, g, e)
		}
	}
}

// Promise 6.1: what a gauge of a bound tells of times, one after the other.
func TestSee(t *testing.T) {
	for _, x := range []struct {
		bound       int
		times, mark []int
		late        string // L for each that is late, otherwise a point
	}{
		// The chapter's example.
		{5, []int{10, 7, 12, 7, 8}, []int{6, 6, 8, 8, 8}, "...L."},
		// With the bound 0 an event of the same time is late.
		{0, []int{5, 5, 6, 5, 6, 7}, []int{6, 6, 7, 7, 7, 8}, ".L.LL."},
		{1, []int{5, 5, 6, 5, 4}, []int{5, 5, 6, 6, 6}, "...LL"},
		{3, []int{-5, -7, -8, 0, -3, -2}, []int{-7, -7, -7, -2, -2, -2}, "..L.L."},
		// No mark is below the least one.
		{5, []int{-maxTime, -maxTime + 3, -maxTime + 4, -maxTime + 5, -maxTime + 2, -maxTime}, []int{-maxTime, -maxTime, -maxTime, -maxTime + 1, -maxTime + 1, -maxTime + 1}, ".....L"},
		{0, []int{-maxTime, -maxTime}, []int{-maxTime + 1, -maxTime + 1}, ".L"},
		{maxSpan, []int{-maxTime, maxTime, -maxTime, maxTime - maxSpan, maxTime - maxSpan + 1}, []int{-maxTime, maxTime - maxSpan + 1, maxTime - maxSpan + 1, maxTime - maxSpan + 1, maxTime - maxSpan + 1}, "..LL."},
		// The greatest mark by its times: all is late, but the gauge is not closed.
		{0, []int{maxTime, maxTime, 0}, []int{maxTime + 1, maxTime + 1, maxTime + 1}, ".LL"},
	} {
		g := newGauge(t, x.bound)
		for i, time := range x.times {
			late, e := g.See(time)
			if late != (x.late[i] == 'L') || e != api.OK {
				t.Errorf("bound %d, See(%d) of %v = %t, %d", x.bound, time, x.times[:i+1], late, e)
			}
			checkGauge(t, "behind See", g, x.bound, x.mark[i], false)
		}
		if l, e := Marks(x.bound, x.times); !slices.Equal(l, x.mark) || e != api.OK {
			t.Errorf("Marks(%d, %v) = %v, %d", x.bound, x.times, l, e)
		}
	}
}

// Promise 6.1: See's errors in their order; nothing changes with one.
func TestSeeErrors(t *testing.T) {
	g := newGauge(t, 5, 12)
	for _, time := range wrongTimes() {
		if late, e := g.See(time); late || e != api.ErrRange {
			t.Errorf("See(%d) = %t, %d", time, late, e)
		}
	}
	checkGauge(t, "behind wrong times", g, 5, 8, false)
	g.Close()
	for _, time := range []int{0, 8, maxTime, -maxTime} {
		if late, e := g.See(time); late || e != api.ErrState {
			t.Errorf("See(%d) of a closed gauge = %t, %d", time, late, e)
		}
	}
	for _, time := range wrongTimes() {
		if late, e := g.See(time); late || e != api.ErrRange {
			t.Errorf("See(%d) of a closed gauge = %t, %d", time, late, e)
		}
	}
	checkGauge(t, "behind errors", g, 5, maxTime+1, true)
}

// Promise 6.1.
func TestCloseGauge(t *testing.T) {
	for _, g := range []*Gauge{newGauge(t, 7), newGauge(t, 7, 3), newGauge(t, 7, maxTime)} {
		g.Close()
		checkGauge(t, "closed", g, 7, maxTime+1, true)
		g.Close()
		checkGauge(t, "closed twice", g, 7, maxTime+1, true)
	}
}

// Promise 6.1: the texts that there are.
func TestParseGauge(t *testing.T) {
	for _, x := range []struct {
		text        string
		bound, mark int
		closed      bool
	}{
		{"5 -1000000000000", 5, -maxTime, false}, {"0 -1000000000000", 0, -maxTime, false}, {"5 8", 5, 8, false}, {"5 0", 5, 0, false}, {"0 -1", 0, -1, false},
		{"5 closed", 5, maxTime + 1, true}, {"0 closed", 0, maxTime + 1, true}, {"1000000000 closed", maxSpan, maxTime + 1, true},
		{"0 1000000000001", 0, maxTime + 1, false}, {"1 1000000000000", 1, maxTime, false}, {"5 999999999996", 5, maxTime - 4, false},
		{"1000000000 999000000001", maxSpan, maxTime - maxSpan + 1, false},
	} {
		g, e := ParseGauge(x.text)
		if e != api.OK {
			t.Errorf("ParseGauge(%q) = %d", x.text, e)
			continue
		}
		checkGauge(t, x.text, g, x.bound, x.mark, x.closed)
	}
}

// Promise 6.1: the texts that there are not.
func TestParseGaugeErrors(t *testing.T) {
	for _, text := range []string{
		"", " ", "5", "5 ", " 8", "closed", " closed", "closed 5", "closed closed", "5 x", "x 8", "5,8", "5-8",
		"05 8", "5 08", "+5 8", "5 +8", "-0 8", "5 -0", "5_0 8", "5 1_0", "0x5 8", "5 0x8", "5.0 8", "5 8.0", "5e0 8", "٥ 8",
		" 5 8", "5  8", "5 8 ", "5 8 9", "5\t8", "5 8\n", "\n5 8", "5 closed ", "5  closed", "5 Closed", "5 close", "5 closedx", "5 8closed", "5 closed 8",
		"-1 0", "-1 closed", "1000000001 0", "1000000001 closed", "99999999999999999999 0", "-99999999999999999999 0",
		"0 1000000000002", "1 1000000000001", "5 999999999997", "1000000000 999000000002", "5 -1000000000001", "5 -1000000000002",
		"5 99999999999999999999", "5 -99999999999999999999", "5 9223372036854775807", "5 -9223372036854775808",
	} {
		if g, e := ParseGauge(text); g != nil || e != api.ErrSyntax {
			t.Errorf("ParseGauge(%q) = %v, %d", text, g, e)
		}
	}
	for _, x := range []struct {
		text string
		want api.Errno
	}{
		{strings.Repeat("5", api.MaxText), api.ErrSyntax}, {strings.Repeat("5", api.MaxText+1), api.ErrLong},
		{"5 8" + strings.Repeat(" ", api.MaxText-3), api.ErrSyntax}, {"5 8" + strings.Repeat(" ", api.MaxText-2), api.ErrLong},
	} {
		if g, e := ParseGauge(x.text); g != nil || e != x.want {
			t.Errorf("ParseGauge of %d bytes = %v, %d", len(x.text), g, e)
		}
	}
}

// Promise 6.3 (the marks themselves are in TestSee).
func TestMarks(t *testing.T) {
	if l, e := Marks(5, nil); len(l) != 0 || e != api.OK {
		t.Errorf("Marks of no times = %v, %d", l, e)
	}
	many := make([]int, api.MaxRows)
	for i := range many {
		many[i] = i
	}
	if l, e := Marks(0, many); len(l) != api.MaxRows || l[0] != 1 || l[399] != 400 || e != api.OK {
		t.Errorf("Marks of MaxRows times = %v, %d", l, e)
	}
	tooMany := append(many, 5)
	for _, bound := range append(wrongSpans(), 0, maxSpan) {
		if l, e := Marks(bound, tooMany); len(l) != 0 || e != api.ErrInvalid {
			t.Errorf("Marks(%d, too many) = %v, %d", bound, l, e)
		}
	}
	for _, bound := range wrongSpans() {
		if l, e := Marks(bound, []int{5}); len(l) != 0 || e != api.ErrRange {
			t.Errorf("Marks(%d) = %v, %d", bound, l, e)
		}
	}
	for _, time := range wrongTimes() {
		for _, times := range [][]int{{time}, {5, time}, {time, 5}} {
			if l, e := Marks(5, times); len(l) != 0 || e != api.ErrRange {
				t.Errorf("Marks(5, %v) = %v, %d", times, l, e)
			}
		}
	}
}
