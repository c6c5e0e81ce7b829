package clock

import (
	"math"
	"slices"
	"testing"

	"tidewright/api"
)

// Promise 1.1.
func TestWindows(t *testing.T) {
	for _, x := range []struct {
		s    api.Spec
		at   int
		want []api.Window
	}{
		{tumbling(10, 0), -1, []api.Window{window(-10, 0)}},
		{tumbling(10, 0), 0, []api.Window{window(0, 10)}},
		{tumbling(10, 0), 9, []api.Window{window(0, 10)}},
		{tumbling(10, 0), -10, []api.Window{window(-10, 0)}},
		{tumbling(10, 0), -11, []api.Window{window(-20, -10)}},
		{tumbling(10, 3), 2, []api.Window{window(-7, 3)}},
		{tumbling(10, 3), 3, []api.Window{window(3, 13)}},
		{tumbling(1, 0), 7, []api.Window{window(7, 8)}},
		{tumbling(maxSpan, maxSpan-1), maxTime, []api.Window{window(maxTime-1, maxTime+maxSpan-1)}},
		{tumbling(maxSpan, 1), -maxTime, []api.Window{window(-maxTime-maxSpan+1, -maxTime+1)}},
		{sliding(10, 5, 0), 12, []api.Window{window(5, 15), window(10, 20)}},
		{sliding(10, 5, 0), 10, []api.Window{window(5, 15), window(10, 20)}},
		{sliding(10, 5, 0), 9, []api.Window{window(0, 10), window(5, 15)}},
		{sliding(10, 5, 0), -1, []api.Window{window(-10, 0), window(-5, 5)}},
		{sliding(10, 4, 1), 5, []api.Window{window(-3, 7), window(1, 11), window(5, 15)}},
		{sliding(10, 4, 1), 8, []api.Window{window(1, 11), window(5, 15)}},
		{sliding(3, 1, 0), 0, []api.Window{window(-2, 1), window(-1, 2), window(0, 3)}},
		{session(5), 7, []api.Window{window(7, 12)}},
		{session(maxSpan), maxTime, []api.Window{window(maxTime, maxTime+maxSpan)}},
		{session(1), -maxTime, []api.Window{window(-maxTime, -maxTime+1)}},
		{global(), 0, []api.Window{window(-maxTime, maxTime+1)}},
		{global(), maxTime, []api.Window{window(-maxTime, maxTime+1)}},
		{global(), -maxTime, []api.Window{window(-maxTime, maxTime+1)}},
	} {
		if got, e := Windows(x.s, x.at); !slices.Equal(got, x.want) || e != api.OK {
			t.Errorf("Windows(%v, %d) = %v, %d", x.s, x.at, got, e)
		}
	}
	if l, e := Windows(sliding(50, 1, 0), 0); len(l) != 50 || e != api.OK {
		t.Errorf("%d windows of the 50 that are allowed, %d", len(l), e)
	}
}

// The order of errors: ErrInvalid, ErrRange, then those that are named.
func TestErrorsOfSpecs(t *testing.T) {
	for _, s := range invalidSpecs() {
		for _, at := range append(invalidTimes(), 0) {
			if l, e := Windows(s, at); len(l) != 0 || e != api.ErrInvalid {
				t.Errorf("Windows(%v, %d) = %v, %d", s, at, l, e)
			}
			if n, e := Next(s, at); n != 0 || e != api.ErrInvalid {
				t.Errorf("Next(%v, %d) = %d, %d", s, at, n, e)
			}
			if l, e := Between(s, at, at-1); len(l) != 0 || e != api.ErrInvalid {
				t.Errorf("Between(%v, %d, %d) = %v, %d", s, at, at-1, l, e)
			}
		}
	}
	for _, s := range validSpecs() {
		for _, at := range invalidTimes() {
			if l, e := Windows(s, at); len(l) != 0 || e != api.ErrRange {
				t.Errorf("Windows(%v, %d) = %v, %d", s, at, l, e)
			}
			if n, e := Next(s, at); n != 0 || e != api.ErrRange {
				t.Errorf("Next(%v, %d) = %d, %d", s, at, n, e)
			}
			for _, x := range [][2]int{{at, at}, {0, at}, {at, 0}} {
				if l, e := Between(s, x[0], x[1]); len(l) != 0 || e != api.ErrRange {
					t.Errorf("Between(%v, %d, %d) = %v, %d", s, x[0], x[1], l, e)
				}
			}
		}
		if l, e := Between(s, 5, 4); len(l) != 0 || e != api.ErrRange {
			t.Errorf("Between(%v, 5, 4) = %v, %d", s, l, e)
		}
	}
	for _, s := range []api.Spec{session(5), global()} {
		if l, e := Between(s, -maxTime, maxTime); len(l) != 0 || e != api.ErrKind {
			t.Errorf("Between(%v) = %v, %d", s, l, e)
		}
		if n, e := Next(s, 0); n != 0 || e != api.ErrKind {
			t.Errorf("Next(%v) = %d, %d", s, n, e)
		}
	}
}

// Promise 1.3.
func TestBetween(t *testing.T) {
	for _, x := range []struct {
		s        api.Spec
		from, to int
		want     []api.Window
	}{
		{sliding(10, 5, 0), 7, 12, []api.Window{window(0, 10), window(5, 15), window(10, 20)}},
		{sliding(10, 5, 0), 7, 7, []api.Window{window(0, 10), window(5, 15)}},
		{sliding(10, 5, 0), 9, 10, []api.Window{window(0, 10), window(5, 15), window(10, 20)}},
		{sliding(10, 5, 0), 10, 14, []api.Window{window(5, 15), window(10, 20)}},
		{sliding(10, 4, 1), -1, 1, []api.Window{window(-7, 3), window(-3, 7), window(1, 11)}},
		{tumbling(10, 0), 0, 9, []api.Window{window(0, 10)}},
		{tumbling(10, 0), -1, 10, []api.Window{window(-10, 0), window(0, 10), window(10, 20)}},
		{tumbling(10, 3), 3, 12, []api.Window{window(3, 13)}},
		{tumbling(10, 3), 2, 13, []api.Window{window(-7, 3), window(3, 13), window(13, 23)}},
		{tumbling(maxSpan, 0), maxTime, maxTime, []api.Window{window(maxTime, maxTime+maxSpan)}},
		{tumbling(maxSpan, 1), -maxTime, -maxTime, []api.Window{window(-maxTime-maxSpan+1, -maxTime+1)}},
	} {
		if got, e := Between(x.s, x.from, x.to); !slices.Equal(got, x.want) || e != api.OK {
			t.Errorf("Between(%v, %d, %d) = %v, %d", x.s, x.from, x.to, got, e)
		}
	}
}

// Promise 1.3: the limit of Between, and that it is told at once, however many windows there are.
func TestBetweenLimit(t *testing.T) {
	for _, x := range []struct {
		s        api.Spec
		from, to int
		count    int
		e        api.Errno
	}{
		{tumbling(1, 0), 0, 399, 400, api.OK},
		{tumbling(1, 0), 0, 400, 0, api.ErrLimit},
		{tumbling(10, 0), 0, 3999, 400, api.OK},
		{tumbling(10, 0), 0, 4000, 0, api.ErrLimit},
		{tumbling(10, 0), -1, 3999, 0, api.ErrLimit},
		{sliding(2, 1, 0), 0, 398, 400, api.OK},
		{sliding(2, 1, 0), 0, 399, 0, api.ErrLimit},
		{tumbling(1, 0), -maxTime, maxTime, 0, api.ErrLimit},
		{tumbling(maxSpan, 0), -maxTime, maxTime, 0, api.ErrLimit},
		{tumbling(maxSpan, 0), 0, 400*maxSpan - 1, 400, api.OK},
	} {
		if l, e := Between(x.s, x.from, x.to); len(l) != x.count || e != x.e {
			t.Errorf("Between(%v, %d, %d): %d windows, %d", x.s, x.from, x.to, len(l), e)
		}
	}
}

// Promise 1.3.
func TestNext(t *testing.T) {
	for _, x := range []struct {
		s        api.Spec
		at, want int
	}{
		{sliding(10, 5, 0), 10, 15}, {sliding(10, 5, 0), 9, 10}, {sliding(10, 5, 0), 14, 15}, {sliding(10, 5, 0), -1, 0},
		{sliding(10, 4, 1), 2, 3}, {sliding(10, 4, 1), 3, 7}, {sliding(10, 4, 1), -1, 3}, {sliding(10, 4, 1), -2, -1},
		{tumbling(10, 0), -1, 0}, {tumbling(10, 0), 0, 10}, {tumbling(10, 3), 2, 3}, {tumbling(10, 3), 3, 13}, {tumbling(1, 0), 4, 5},
		{tumbling(10, 0), maxTime, maxTime + 10}, {tumbling(10, 0), -maxTime, -maxTime + 10}, {tumbling(maxSpan, 1), -maxTime, -maxTime + 1},
		{tumbling(maxSpan, 0), maxTime, maxTime + maxSpan},
	} {
		if got, e := Next(x.s, x.at); got != x.want || e != api.OK {
			t.Errorf("Next(%v, %d) = %d, %d", x.s, x.at, got, e)
		}
	}
}

// smallSpecs are all tumbling and sliding specs up to a size.
func smallSpecs(size int) []api.Spec {
	var l []api.Spec
	for n := 1; n <= size; n++ {
		for shift := range n {
			l = append(l, tumbling(n, shift))
		}
		for step := 1; step <= n; step++ {
			for shift := range step {
				l = append(l, sliding(n, step, shift))
			}
		}
	}
	return l
}

// begins reports, as the document says it, whether a window of a spec begins at n.
func begins(s api.Spec, n int) bool {
	if s.Kind == api.WTumbling {
		return (n-s.Shift)%s.Size == 0
	}
	return (n-s.Shift)%s.Step == 0
}

// met returns the windows of a spec that contain some time from from to to, by trying every beginning.
func met(s api.Spec, from, to int) []api.Window {
	var l []api.Window
	for n := from - s.Size; n <= to; n++ {
		if w := window(n, n+s.Size); begins(s, n) && w.To > from {
			l = append(l, w)
		}
	}
	return l
}

// Promises 1.1 and 1.3, against beginnings tried one by one.
func TestSmallSpecs(t *testing.T) {
	for _, s := range smallSpecs(9) {
		for from := -12; from <= 12; from++ {
			if l, e := Windows(s, from); !slices.Equal(l, met(s, from, from)) || e != api.OK {
				t.Fatalf("Windows(%v, %d) = %v, %d", s, from, l, e)
			}
			for to := from; to < from+5; to++ {
				if l, e := Between(s, from, to); !slices.Equal(l, met(s, from, to)) || e != api.OK {
					t.Fatalf("Between(%v, %d, %d) = %v, %d", s, from, to, l, e)
				}
			}
			want := from + 1
			for !begins(s, want-s.Size) {
				want++
			}
			if n, e := Next(s, from); n != want || e != api.OK {
				t.Fatalf("Next(%v, %d) = %d, %d, not %d", s, from, n, e, want)
			}
		}
	}
}

// Promise P1.2.
func TestContained(t *testing.T) {
	specs := append(validSpecs(), smallSpecs(7)...)
	for _, s := range specs {
		for _, at := range []int{0, 1, -1, 2, -2, 7, 12, -13, 999, maxTime, maxTime - 1, -maxTime, 1 - maxTime, 123456789012} {
			l, e := Windows(s, at)
			if e != api.OK || !slices.IsSortedFunc(l, Compare) {
				t.Fatalf("Windows(%v, %d) = %v, %d", s, at, l, e)
			}
			for _, w := range l {
				if !ValidWindow(w) || !Contains(w, at) {
					t.Fatalf("Windows(%v, %d) has %v", s, at, w)
				}
			}
			least, most := 1, 1
			if s.Kind == api.WSliding {
				least, most = s.Size/s.Step, (s.Size+s.Step-1)/s.Step
			}
			if len(l) < least || len(l) > most {
				t.Fatalf("Windows(%v, %d) has %d windows", s, at, len(l))
			}
		}
	}
}

// Promise P1.2: between two neighbouring ends of Next no window ends, and at each one does.
func TestEnds(t *testing.T) {
	for _, s := range smallSpecs(7) {
		var ends []int
		for at := -20; at <= 20; {
			n, e := Next(s, at)
			if n <= at || e != api.OK {
				t.Fatalf("Next(%v, %d) = %d, %d", s, at, n, e)
			}
			ends = append(ends, n)
			at = n
		}
		for n := -19; n <= 20; n++ {
			if slices.Contains(ends, n) != begins(s, n-s.Size) {
				t.Fatalf("%v: the ends %v, asked for %d", s, ends, n)
			}
		}
	}
}

// Promise P1.5.
func TestTumblingAsSliding(t *testing.T) {
	for _, s := range append(smallSpecs(7), validSpecs()...) {
		if s.Kind != api.WTumbling {
			continue
		}
		as := sliding(s.Size, s.Size, s.Shift)
		for _, at := range []int{0, 1, -1, 5, -6, 13, maxTime, -maxTime} {
			a, e := Windows(s, at)
			b, f := Windows(as, at)
			if !slices.Equal(a, b) || e != api.OK || f != api.OK {
				t.Fatalf("Windows of %v and %v at %d: %v, %d and %v, %d", s, as, at, a, e, b, f)
			}
			to := min(at+3*s.Size, maxTime)
			a, e = Between(s, at, to)
			b, f = Between(as, at, to)
			if !slices.Equal(a, b) || e != api.OK || f != api.OK {
				t.Fatalf("Between of %v and %v from %d to %d: %v, %d and %v, %d", s, as, at, to, a, e, b, f)
			}
			m, e := Next(s, at)
			n, f := Next(as, at)
			if m != n || e != api.OK || f != api.OK {
				t.Fatalf("Next of %v and %v at %d: %d, %d and %d, %d", s, as, at, m, e, n, f)
			}
		}
	}
}

// Promise P1.1: every call ends and none panics, whatever numbers it has.
func TestAnyNumbers(t *testing.T) {
	numbers := []int{math.MinInt, math.MinInt + 1, -2*maxTime - 1, -maxTime, -1, 0, 1, 5, 50, maxSpan, maxSpan + 1, maxTime + 1, math.MaxInt - 1, math.MaxInt}
	for kind := -1; kind <= 5; kind++ {
		for _, a := range numbers {
			for _, b := range numbers {
				for _, s := range []api.Spec{{Kind: kind, Size: a, Shift: b}, {Kind: kind, Size: a, Step: b}, {Kind: kind, Gap: a}, {Kind: kind, Size: b, Step: b, Shift: a}} {
					Windows(s, a)
					Between(s, a, b)
					Next(s, b)
					if text := Format(s); (text != "") != ValidSpec(s) {
						t.Errorf("Format(%v) = %q", s, text)
					}
				}
				Contains(window(a, b), a)
				Touch(window(a, b), window(b, a))
				Compare(window(a, b), window(b, a))
				Merge([]api.Window{window(a, b), window(b, a)})
				Sessions(a, []int{a, b})
				Session(a, []int{a, b}, b)
				Floor(a, b)
			}
		}
	}
}
