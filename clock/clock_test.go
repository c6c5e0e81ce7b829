package clock

import (
	"math"
	"testing"

	"tidewright/api"
)

const (
	maxTime = api.MaxTime
	maxSpan = api.MaxSpan
	maxInt  = api.MaxInt
)

func window(from, to int) api.Window { return api.Window{From: from, To: to} }

func tumbling(size, shift int) api.Spec {
	return api.Spec{Kind: api.WTumbling, Size: size, Shift: shift}
}

func sliding(size, step, shift int) api.Spec {
	return api.Spec{Kind: api.WSliding, Size: size, Step: step, Shift: shift}
}

func session(gap int) api.Spec { return api.Spec{Kind: api.WSession, Gap: gap} }

func global() api.Spec { return api.Spec{Kind: api.WGlobal} }

// validSpecs are specs of all kinds, with the edges of their fields.
func validSpecs() []api.Spec {
	return []api.Spec{
		tumbling(1, 0), tumbling(10, 0), tumbling(10, 3), tumbling(10, 9), tumbling(maxSpan, 0), tumbling(maxSpan, maxSpan-1),
		sliding(1, 1, 0), sliding(10, 5, 0), sliding(10, 4, 1), sliding(10, 10, 9), sliding(50, 1, 0), sliding(100, 2, 1),
		sliding(maxSpan, maxSpan, maxSpan-1), sliding(maxSpan, maxSpan/50, maxSpan/50-1),
		session(1), session(5), session(maxSpan),
		global(),
	}
}

// invalidSpecs are specs each of which breaks one rule.
func invalidSpecs() []api.Spec {
	return []api.Spec{
		{}, {Kind: -1}, {Kind: 5}, {Kind: 5, Size: 10, Step: 5, Gap: 5}, {Kind: math.MinInt}, {Kind: math.MaxInt},

		tumbling(0, 0), tumbling(-1, 0), tumbling(0, -1), tumbling(maxSpan+1, 0), tumbling(10, -1), tumbling(10, 10), tumbling(1, 1),
		tumbling(math.MinInt, 0), tumbling(math.MaxInt, 0), tumbling(math.MinInt, 1), tumbling(10, math.MinInt), tumbling(10, math.MaxInt),
		{Kind: api.WTumbling, Size: 10, Step: 10}, {Kind: api.WTumbling, Size: 10, Step: 5}, {Kind: api.WTumbling, Size: 10, Gap: 1}, {Kind: api.WTumbling, Size: 10, Gap: -1},

		sliding(0, 0, 0), sliding(10, 0, 0), sliding(10, -1, 0), sliding(10, 11, 0), sliding(maxSpan+1, maxSpan, 0), sliding(maxSpan+1, maxSpan+1, 0),
		sliding(51, 1, 0), sliding(101, 2, 0), sliding(maxSpan, maxSpan/50-1, 0), sliding(10, 5, -1), sliding(10, 5, 5), sliding(10, 5, 9), sliding(-10, -10, 0),
		sliding(math.MaxInt, math.MaxInt, 0), sliding(math.MaxInt, math.MaxInt/2, 0), sliding(10, math.MinInt, 0), sliding(math.MinInt, math.MinInt, 0),
		{Kind: api.WSliding, Size: 10, Step: 5, Gap: 1},

		session(0), session(-1), session(maxSpan + 1), session(math.MinInt), session(math.MaxInt),
		{Kind: api.WSession, Gap: 5, Size: 1}, {Kind: api.WSession, Gap: 5, Step: 1}, {Kind: api.WSession, Gap: 5, Shift: 1}, {Kind: api.WSession, Size: 5},

		{Kind: api.WGlobal, Size: 1}, {Kind: api.WGlobal, Step: 1}, {Kind: api.WGlobal, Gap: 1}, {Kind: api.WGlobal, Shift: 1},
	}
}

// validWindows and invalidWindows have the edges of what is valid.
func validWindows() []api.Window {
	return []api.Window{
		window(0, 1), window(-5, 5), window(-maxTime, maxTime+1), window(-2*maxTime, 2*maxTime),
		window(-2*maxTime, -2*maxTime+1), window(2*maxTime-1, 2*maxTime),
	}
}

func invalidWindows() []api.Window {
	return []api.Window{
		{}, window(1, 1), window(1, 0), window(-2*maxTime-1, 0), window(0, 2*maxTime+1), window(2*maxTime, 2*maxTime+1), window(-2*maxTime-1, -2*maxTime),
		window(math.MinInt, math.MaxInt), window(math.MaxInt, math.MinInt), window(math.MinInt, 0), window(0, math.MaxInt),
	}
}

// invalidTimes are numbers beyond the times.
func invalidTimes() []int {
	return []int{maxTime + 1, -maxTime - 1, math.MaxInt, math.MinInt}
}

// Promise 1.1.
func TestValid(t *testing.T) {
	for _, n := range []int{0, 1, -1, maxTime, -maxTime} {
		if !Valid(n) {
			t.Errorf("Valid(%d) is false", n)
		}
	}
	for _, n := range invalidTimes() {
		if Valid(n) {
			t.Errorf("Valid(%d) is true", n)
		}
	}
}

// Promise 1.1.
func TestValidWindow(t *testing.T) {
	for _, w := range validWindows() {
		if !ValidWindow(w) {
			t.Errorf("ValidWindow(%v) is false", w)
		}
	}
	for _, w := range invalidWindows() {
		if ValidWindow(w) {
			t.Errorf("ValidWindow(%v) is true", w)
		}
	}
}

// Promise 1.1.
func TestValidSpec(t *testing.T) {
	for _, s := range validSpecs() {
		if !ValidSpec(s) {
			t.Errorf("ValidSpec(%v) is false", s)
		}
	}
	for _, s := range invalidSpecs() {
		if ValidSpec(s) {
			t.Errorf("ValidSpec(%v) is true", s)
		}
	}
}

// Promise 1.1.
func TestContains(t *testing.T) {
	for _, x := range []struct {
		w    api.Window
		at   int
		want bool
	}{
		{window(5, 10), 4, false}, {window(5, 10), 5, true}, {window(5, 10), 9, true}, {window(5, 10), 10, false},
		{window(-10, 0), -1, true}, {window(-10, 0), 0, false}, {window(-10, 0), -11, false},
		{window(-maxTime, maxTime+1), maxTime, true}, {window(-maxTime, maxTime+1), -maxTime, true},
		// What is not valid: a time beyond, though the window reaches there; a window.
		{window(-2*maxTime, 2*maxTime), maxTime + 1, false}, {window(-2*maxTime, 2*maxTime), -maxTime - 1, false},
		{window(-2*maxTime-1, 10), 5, false}, {window(0, 2*maxTime+1), 5, false}, {window(math.MinInt, math.MaxInt), 0, false},
		{window(5, 5), 5, false}, {window(6, 5), 5, false}, {api.Window{}, 0, false},
	} {
		if got := Contains(x.w, x.at); got != x.want {
			t.Errorf("Contains(%v, %d) = %v", x.w, x.at, got)
		}
	}
}

// Promise 1.1.
func TestTouch(t *testing.T) {
	for _, x := range []struct {
		a, b api.Window
		want bool
	}{
		{window(0, 5), window(5, 6), false}, {window(0, 6), window(5, 6), true}, {window(0, 5), window(6, 7), false},
		{window(0, 5), window(0, 5), true}, {window(0, 5), window(1, 2), true}, {window(-5, 0), window(-1, 1), true}, {window(-5, 0), window(0, 1), false},
		{window(-2*maxTime, 2*maxTime), window(0, 1), true}, {window(0, 2*maxTime), window(2*maxTime-1, 2*maxTime), true},
		// What is not valid touches nothing.
		{window(0, 5), window(3, 3), false}, {window(0, 5), window(4, 2), false}, {window(0, 5), window(-2*maxTime-1, 9), false},
		{window(0, 5), window(1, 2*maxTime+1), false}, {window(math.MinInt, math.MaxInt), window(math.MinInt, math.MaxInt), false}, {api.Window{}, api.Window{}, false},
	} {
		if got := Touch(x.a, x.b); got != x.want {
			t.Errorf("Touch(%v, %v) = %v", x.a, x.b, got)
		}
		if got := Touch(x.b, x.a); got != x.want {
			t.Errorf("Touch(%v, %v) = %v", x.b, x.a, got)
		}
	}
}

// Promise 1.1 and the detail that Compare takes any two windows.
func TestCompare(t *testing.T) {
	ascending := []api.Window{
		window(math.MinInt, math.MinInt), window(math.MinInt, math.MaxInt), window(-5, -7), window(-5, 0), {}, window(0, 1), window(0, 3),
		window(1, 0), window(1, 5), window(2, 3), window(math.MaxInt, math.MinInt), window(math.MaxInt, math.MaxInt),
	}
	for i, a := range ascending {
		for j, b := range ascending {
			want := 0
			if i < j {
				want = -1
			} else if i > j {
				want = 1
			}
			if got := Compare(a, b); got != want {
				t.Errorf("Compare(%v, %v) = %d, not %d", a, b, got, want)
			}
		}
	}
}

// Promise 1.1.
func TestFloor(t *testing.T) {
	for _, x := range []struct{ a, b, want int }{
		{7, 2, 3}, {-7, 2, -4}, {6, 2, 3}, {-6, 2, -3}, {0, 3, 0}, {-1, maxSpan, -1}, {1, maxSpan, 0}, {5, 1, 5}, {-5, 1, -5},
		{maxInt, 1, maxInt}, {-maxInt, 1, -maxInt}, {maxInt, maxSpan, 1000000}, {-maxInt, maxSpan, -1000000}, {-maxInt + 1, maxSpan, -1000000}, {maxInt - 1, maxSpan, 999999},
	} {
		if got, e := Floor(x.a, x.b); got != x.want || e != api.OK {
			t.Errorf("Floor(%d, %d) = %d, %d", x.a, x.b, got, e)
		}
	}
	for _, x := range [][2]int{
		{7, 0}, {7, -2}, {7, maxSpan + 1}, {maxInt + 1, 2}, {-maxInt - 1, 2}, {maxInt + 1, 0}, {math.MinInt, -1}, {math.MaxInt, math.MaxInt}, {7, math.MinInt}, {7, math.MaxInt},
	} {
		if got, e := Floor(x[0], x[1]); got != 0 || e != api.ErrRange {
			t.Errorf("Floor(%d, %d) = %d, %d", x[0], x[1], got, e)
		}
	}
}
