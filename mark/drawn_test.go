package mark

import (
	"fmt"
	"math/rand"
	"slices"
	"testing"

	"tidewright/api"
)

// drawTimes draws times that are close to each other, around 0 or at the ends.
func drawTimes(r *rand.Rand) []int {
	base := []int{0, 0, maxTime - 10, -maxTime + 10}[r.Intn(4)]
	times := make([]int, r.Intn(20))
	for i := range times {
		times[i] = base + r.Intn(21) - 10
	}
	return times
}

// markOf tells a gauge's mark from its words: the greatest time, less the bound, plus 1, but at least the least mark.
func markOf(bound int, times []int) int {
	if len(times) == 0 {
		return -maxTime
	}
	return max(-maxTime, slices.Max(times)-bound+1)
}

// Promises 6.1, 6.3, P6.2 (a gauge), P6.4 and P6.5, on drawn times.
func TestDrawnGauges(t *testing.T) {
	r := rand.New(rand.NewSource(61))
	for range 3000 {
		bound, times := r.Intn(12), drawTimes(r)
		g := newGauge(t, bound)
		var on, late []api.Event
		var marks []int
		l := at(times...)
		for i, time := range times {
			was := g.Mark()
			h, e := ParseGauge(g.Text())
			if e != api.OK || was != markOf(bound, times[:i]) {
				t.Fatalf("bound %d, times %v: the mark %d, %d", bound, times[:i], was, e)
			}
			isLate, _ := g.See(time)
			if isLate != (time < was) || g.Mark() < was || isLate && g.Mark() != was {
				t.Fatalf("bound %d, times %v: %t, from %d to %d", bound, times[:i+1], isLate, was, g.Mark())
			}
			if also, _ := h.See(time); also != isLate || h.Text() != g.Text() {
				t.Fatalf("bound %d, times %v: the text goes on otherwise", bound, times[:i+1])
			}
			marks = append(marks, g.Mark())
			if isLate {
				late = append(late, l[i])
			} else {
				on = append(on, l[i])
			}
		}
		if got, e := Marks(bound, times); !slices.Equal(got, marks) || e != api.OK {
			t.Fatalf("Marks(%d, %v) = %v, %d", bound, times, got, e)
		}
		gotOn, gotLate, e := Sorted(bound, l)
		if !sameEvents(gotOn, on) || !sameEvents(gotLate, late) || e != api.OK {
			t.Fatalf("Sorted(%d, %v) = %v, %v, %d", bound, times, gotOn, gotLate, e)
		}
		if len(times) > 0 && bound > slices.Max(times)-slices.Min(times) && len(late) > 0 {
			t.Fatalf("Sorted(%d, %v): late are %v", bound, times, late)
		}
		g.Close()
		if h, e := ParseGauge(g.Text()); e != api.OK || !h.Closed() || h.Mark() != end || h.Text() != g.Text() {
			t.Fatalf("ParseGauge(%q) = %d", g.Text(), e)
		}
	}
}

// model is a meet by its words.
type model struct {
	marks        []int
	idle, closed []bool
	mark         int
	everIdle     []bool
}

func newModel(n int) *model {
	return &model{marks: slices.Repeat([]int{-maxTime}, n), idle: make([]bool, n), closed: make([]bool, n), mark: -maxTime, everIdle: make([]bool, n)}
}

// busy returns the marks of the busy inputs, ascending.
func (m *model) busy() []int {
	var l []int
	for i, mark := range m.marks {
		if !m.idle[i] {
			l = append(l, mark)
		}
	}
	slices.Sort(l)
	return l
}

func (m *model) do(call, input, mark int) api.Errno {
	if input < 0 || input >= len(m.marks) {
		return api.ErrRange
	}
	if call == 0 {
		if mark < -maxTime || mark > end {
			return api.ErrRange
		}
		if mark < m.marks[input] {
			return api.ErrState
		}
		m.marks[input], m.idle[input] = mark, false
	} else {
		if m.closed[input] {
			return api.ErrState
		}
		m.idle[input] = call == 1
		m.everIdle[input] = m.everIdle[input] || call == 1
		if call == 3 {
			m.closed[input], m.marks[input] = true, end
		}
	}
	if l := m.busy(); len(l) > 0 {
		m.mark = max(m.mark, l[0])
	}
	return api.OK
}

func (m *model) held(drift int) []int {
	var held []int
	for i, mark := range m.marks {
		if l := m.busy(); !m.idle[i] && mark > l[0]+drift {
			held = append(held, i)
		}
	}
	return held
}

// Promises 6.2, P6.2 (a meet) and P6.3, on drawn calls.
func TestDrawnMeets(t *testing.T) {
	r := rand.New(rand.NewSource(62))
	for range 2000 {
		n := 1 + r.Intn(api.MaxInputs)
		m, want := newMeet(t, n), newModel(n)
		told := ""
		for range 40 {
			call, input, mark := r.Intn(4), r.Intn(n+1), []int{r.Intn(30), r.Intn(30), r.Intn(30), end, end + 1, -maxTime}[r.Intn(6)]
			if call == 3 && r.Intn(3) > 0 || call > 0 && r.Intn(4) == 0 {
				call = 0
			}
			told += fmt.Sprintf(" %d(%d,%d)", call, input, mark)
			was := m.Mark()
			e := []func() api.Errno{
				func() api.Errno { return m.Set(input, mark) }, func() api.Errno { return m.Idle(input) },
				func() api.Errno { return m.Busy(input) }, func() api.Errno { return m.Close(input) },
			}[call]()
			if wantE := want.do(call, input, mark); e != wantE {
				t.Fatalf("%s: %d, not %d", told, e, wantE)
			}
			if m.Mark() != want.mark || m.Mark() < was || !slices.Equal(m.Inputs(), want.marks) {
				t.Fatalf("%s: from %d to %d of %v, not %d of %v", told, was, m.Mark(), m.Inputs(), want.mark, want.marks)
			}
			if !slices.Contains(want.everIdle, true) && m.Mark() != slices.Min(m.Inputs()) {
				t.Fatalf("%s: %d is not the least of %v", told, m.Mark(), m.Inputs())
			}
			for i := range n {
				if m.IsIdle(i) != want.idle[i] || !want.everIdle[i] && m.Mark() > m.Inputs()[i] {
					t.Fatalf("%s: input %d: %t, the mark %d", told, i, m.IsIdle(i), m.Mark())
				}
			}
			drift := r.Intn(15)
			if held, e := m.Held(drift); !slices.Equal(held, want.held(drift)) || e != api.OK {
				t.Fatalf("%s: Held(%d) = %v, %d, not %v", told, drift, held, e, want.held(drift))
			}
		}
	}
}
