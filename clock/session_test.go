package clock

import (
	"math"
	"math/rand"
	"slices"
	"testing"

	"tidewright/api"
)

// Promise 1.2.
func TestMerge(t *testing.T) {
	for _, x := range []struct{ l, want []api.Window }{
		{nil, nil},
		{[]api.Window{window(3, 4)}, []api.Window{window(3, 4)}},
		{[]api.Window{window(3, 4), window(3, 4)}, []api.Window{window(3, 4)}},
		{[]api.Window{window(8, 9), window(0, 3), window(2, 5), window(5, 6)}, []api.Window{window(0, 5), window(5, 6), window(8, 9)}},
		{[]api.Window{window(0, 10), window(2, 3), window(4, 5), window(9, 12)}, []api.Window{window(0, 12)}},
		{[]api.Window{window(0, 2), window(4, 6), window(1, 5)}, []api.Window{window(0, 6)}},
		{[]api.Window{window(-2, 0), window(0, 2)}, []api.Window{window(-2, 0), window(0, 2)}},
		{[]api.Window{window(1, 3), window(1, 7), window(1, 2)}, []api.Window{window(1, 7)}},
		{[]api.Window{window(0, 2*maxTime), window(-2*maxTime, 1)}, []api.Window{window(-2*maxTime, 2*maxTime)}},
		{[]api.Window{window(maxTime+5, maxTime+9), window(maxTime+7, maxTime+12)}, []api.Window{window(maxTime+5, maxTime+12)}},
	} {
		if got, e := Merge(x.l); !slices.Equal(got, x.want) || e != api.OK {
			t.Errorf("Merge(%v) = %v, %d", x.l, got, e)
		}
	}
	for _, w := range invalidWindows() {
		for _, l := range [][]api.Window{{w}, {window(0, 1), w}, {w, window(0, 1)}} {
			if got, e := Merge(l); len(got) != 0 || e != api.ErrInvalid {
				t.Errorf("Merge(%v) = %v, %d", l, got, e)
			}
		}
	}
}

// Promise 1.2: a list has at most MaxRows windows.
func TestMergeLimit(t *testing.T) {
	var l []api.Window
	for n := range 400 {
		l = append(l, window(2*n, 2*n+1))
	}
	if got, e := Merge(l); !slices.Equal(got, l) || e != api.OK {
		t.Errorf("400 windows: %d, %d", len(got), e)
	}
	if got, e := Merge(append(l, window(0, 1))); len(got) != 0 || e != api.ErrInvalid {
		t.Errorf("401 windows: %d, %d", len(got), e)
	}
}

// Promise 1.2.
func TestSessions(t *testing.T) {
	for _, x := range []struct {
		gap   int
		times []int
		want  []api.Window
	}{
		{5, nil, nil},
		{5, []int{7}, []api.Window{window(7, 12)}},
		{5, []int{7, 7}, []api.Window{window(7, 12)}},
		{5, []int{0, 4, 11}, []api.Window{window(0, 9), window(11, 16)}},
		{5, []int{11, 0, 4, 5}, []api.Window{window(0, 10), window(11, 16)}},
		{5, []int{0, 5}, []api.Window{window(0, 5), window(5, 10)}},
		{5, []int{-5, 0, -1}, []api.Window{window(-5, 5)}},
		{1, []int{2, 1, 3}, []api.Window{window(1, 2), window(2, 3), window(3, 4)}},
		{maxSpan, []int{maxTime, -maxTime}, []api.Window{window(-maxTime, -maxTime+maxSpan), window(maxTime, maxTime+maxSpan)}},
	} {
		if got, e := Sessions(x.gap, x.times); !slices.Equal(got, x.want) || e != api.OK {
			t.Errorf("Sessions(%d, %v) = %v, %d", x.gap, x.times, got, e)
		}
	}
}

// Promise 1.2.
func TestSession(t *testing.T) {
	for _, x := range []struct {
		gap   int
		times []int
		at    int
		want  api.Window
		e     api.Errno
	}{
		{5, []int{0, 4, 11}, 0, window(0, 9), api.OK},
		{5, []int{0, 4, 11}, 8, window(0, 9), api.OK},
		{5, []int{0, 4, 11}, 9, api.Window{}, api.ErrNone},
		{5, []int{0, 4, 11}, 10, api.Window{}, api.ErrNone},
		{5, []int{0, 4, 11}, -1, api.Window{}, api.ErrNone},
		{5, []int{11, 4, 0}, 11, window(11, 16), api.OK},
		{5, []int{0, 4, 11}, 16, api.Window{}, api.ErrNone},
		{5, []int{0, 5}, 5, window(5, 10), api.OK},
		{5, []int{0, 5}, 4, window(0, 5), api.OK},
		{5, nil, 0, api.Window{}, api.ErrNone},
		{maxSpan, []int{maxTime}, maxTime, window(maxTime, maxTime+maxSpan), api.OK},
	} {
		if got, e := Session(x.gap, x.times, x.at); got != x.want || e != x.e {
			t.Errorf("Session(%d, %v, %d) = %v, %d", x.gap, x.times, x.at, got, e)
		}
	}
}

// The order of errors of promise 1.2: ErrInvalid, ErrRange, ErrNone.
func TestErrorsOfSessions(t *testing.T) {
	many := make([]int, 401)
	bad := slices.Clone(many)
	bad[400] = maxTime + 1
	for _, x := range []struct {
		gap   int
		times []int
		at    int
		e     api.Errno
	}{
		{5, many[:400], 0, api.OK},
		{5, many, 0, api.ErrInvalid},
		{0, bad, maxTime + 1, api.ErrInvalid},
		{0, many[:1], 0, api.ErrRange},
		{-1, many[:1], 0, api.ErrRange},
		{maxSpan + 1, many[:1], 0, api.ErrRange},
		{math.MaxInt, many[:1], 0, api.ErrRange},
		{math.MinInt, nil, 0, api.ErrRange},
		{maxSpan, many[:1], 0, api.OK},
		{1, many[:1], 0, api.OK},
		{5, []int{0, maxTime + 1}, 0, api.ErrRange},
		{5, []int{-maxTime - 1, 0}, 0, api.ErrRange},
		{5, []int{math.MaxInt}, 0, api.ErrRange},
	} {
		if l, e := Sessions(x.gap, x.times); e != x.e || e != api.OK && len(l) != 0 {
			t.Errorf("Sessions(%d, %d times) = %v, %d", x.gap, len(x.times), l, e)
		}
		if w, e := Session(x.gap, x.times, x.at); e != x.e || e != api.OK && w != (api.Window{}) {
			t.Errorf("Session(%d, %d times, %d) = %v, %d", x.gap, len(x.times), x.at, w, e)
		}
	}
	for _, at := range invalidTimes() {
		if w, e := Session(5, []int{0}, at); w != (api.Window{}) || e != api.ErrRange {
			t.Errorf("Session at %d = %v, %d", at, w, e)
		}
	}
}

// Promise P1.1: arguments stay as they are, also behind their length, and results are new memory.
func TestNewMemory(t *testing.T) {
	windows := []api.Window{window(8, 9), window(0, 3), window(2, 5), window(7, 7), window(1, 1)}
	times := []int{11, 0, 4, 77, 78}
	keptWindows, keptTimes := slices.Clone(windows), slices.Clone(times)
	for range 2 { // the second time behind a result that was written over
		merged, e := Merge(windows[:3])
		if !slices.Equal(merged, []api.Window{window(0, 5), window(8, 9)}) || e != api.OK {
			t.Fatalf("Merge = %v, %d", merged, e)
		}
		sessions, e := Sessions(5, times[:3])
		if !slices.Equal(sessions, []api.Window{window(0, 9), window(11, 16)}) || e != api.OK {
			t.Fatalf("Sessions = %v, %d", sessions, e)
		}
		if w, e := Session(5, times[:3], 4); w != window(0, 9) || e != api.OK {
			t.Fatalf("Session = %v, %d", w, e)
		}
		between, e := Between(sliding(10, 5, 0), 7, 12)
		if !slices.Equal(between, []api.Window{window(0, 10), window(5, 15), window(10, 20)}) || e != api.OK {
			t.Fatalf("Between = %v, %d", between, e)
		}
		at, e := Windows(global(), 0)
		if !slices.Equal(at, []api.Window{window(-maxTime, maxTime+1)}) || e != api.OK {
			t.Fatalf("Windows = %v, %d", at, e)
		}
		for _, l := range [][]api.Window{merged, sessions, between, at} {
			l = l[:cap(l)]
			for i := range l {
				l[i] = window(-99, 99)
			}
		}
		if !slices.Equal(windows, keptWindows) || !slices.Equal(times, keptTimes) {
			t.Fatalf("the arguments are %v and %v now", windows, times)
		}
	}
}

// someWindows makes a list of windows close to each other.
func someWindows(r *rand.Rand) []api.Window {
	var l []api.Window
	for range r.Intn(12) {
		from := r.Intn(60) - 30
		l = append(l, window(from, from+1+r.Intn(6)))
	}
	return l
}

// mergedByPairs puts together two windows that touch for as long as there are any, as the document says it.
func mergedByPairs(l []api.Window) []api.Window {
	l = slices.Clone(l)
again:
	for i, a := range l {
		for j, b := range l[:i] {
			if a.From < b.To && b.From < a.To {
				l[j] = window(min(a.From, b.From), max(a.To, b.To))
				l = slices.Delete(l, i, i+1)
				goto again
			}
		}
	}
	slices.SortFunc(l, Compare)
	return l
}

// Promise P1.3.
func TestMerged(t *testing.T) {
	r := rand.New(rand.NewSource(1))
	for range 3000 {
		l := someWindows(r)
		got, e := Merge(l)
		if !slices.Equal(got, mergedByPairs(l)) || e != api.OK {
			t.Fatalf("Merge(%v) = %v, %d", l, got, e)
		}
		for i, a := range got {
			for _, b := range got[:i] {
				if Touch(a, b) {
					t.Fatalf("Merge(%v) = %v, where %v and %v touch", l, got, a, b)
				}
			}
		}
		for _, w := range l {
			if !slices.ContainsFunc(got, func(m api.Window) bool { return m.From <= w.From && w.To <= m.To }) {
				t.Fatalf("Merge(%v) = %v, where %v lies in none", l, got, w)
			}
		}
		if again, e := Merge(got); !slices.Equal(again, got) || e != api.OK {
			t.Fatalf("Merge(%v) = %v, %d", got, again, e)
		}
		r.Shuffle(len(l), func(i, j int) { l[i], l[j] = l[j], l[i] })
		if other, e := Merge(l); !slices.Equal(other, got) || e != api.OK {
			t.Fatalf("Merge(%v) = %v, %d, not %v", l, other, e, got)
		}
	}
}

// together reports, as the document says it, whether two times are in one session.
func together(gap int, times []int, a, b int) bool {
	sorted := slices.Sorted(slices.Values(times))
	for i, n := range sorted[1:] {
		before := sorted[i]
		if before >= min(a, b) && n <= max(a, b) && n-before >= gap {
			return false
		}
	}
	return true
}

// Promise P1.4.
func TestOneSession(t *testing.T) {
	r := rand.New(rand.NewSource(2))
	for range 500 {
		gap := 1 + r.Intn(8)
		var times []int
		for range 1 + r.Intn(9) {
			times = append(times, r.Intn(50)-25)
		}
		all, e := Sessions(gap, times)
		if e != api.OK || !slices.IsSortedFunc(all, Compare) {
			t.Fatalf("Sessions(%d, %v) = %v, %d", gap, times, all, e)
		}
		for _, a := range times {
			v, e := Session(gap, times, a)
			if e != api.OK || !Contains(v, a) || !slices.Contains(all, v) {
				t.Fatalf("Session(%d, %v, %d) = %v, %d", gap, times, a, v, e)
			}
			for _, b := range times {
				w, _ := Session(gap, times, b)
				if (v == w) != together(gap, times, a, b) {
					t.Fatalf("with the gap %d and %v: %d is in %v, %d is in %v", gap, times, a, v, b, w)
				}
			}
		}
	}
}
