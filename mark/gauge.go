package mark

import (
	"iter"
	"slices"
	"strconv"
	"strings"

	"tidewright/api"
	"tidewright/clock"
)

// closedWord stands in a text in place of the mark of a gauge that is closed.
const closedWord = "closed"

// Gauge makes marks of the times of events that are read: each is a bound below the greatest time so far.
type Gauge struct {
	bound   int
	reached level
	closed  bool
}

// NewGauge returns a gauge that has seen nothing.
func NewGauge(bound int) (*Gauge, api.Errno) {
	if !isSpan(bound) {
		return nil, api.ErrRange
	}
	return &Gauge{bound: bound}, api.OK
}

// See tells the gauge the time of an event, and reports whether the event is late at the mark before.
func (g *Gauge) See(time int) (late bool, e api.Errno) {
	switch {
	case g == nil:
		return false, api.ErrInvalid
	case !clock.Valid(time):
		return false, api.ErrRange
	case g.closed:
		return false, api.ErrState
	}
	late = Late(time, g.Mark())
	g.reached.raise(time - g.bound + 1)
	return late, api.OK
}

// Mark returns the mark.
func (g *Gauge) Mark() int {
	if g == nil {
		return none
	}
	return g.reached.mark()
}

// Close tells that no event is to come any more.
func (g *Gauge) Close() {
	if g != nil {
		g.closed = true
		g.reached.raise(greatest)
	}
}

// Closed reports whether the gauge is closed. One that has come to the greatest mark by its times is not.
func (g *Gauge) Closed() bool {
	return g != nil && g.closed
}

// Text returns the bound, and the mark or that the gauge is closed.
func (g *Gauge) Text() string {
	if g == nil {
		return ""
	}
	second := closedWord
	if !g.closed {
		second = strconv.Itoa(g.Mark())
	}
	return strconv.Itoa(g.bound) + " " + second
}

// ParseGauge reads a text that Text returns.
func ParseGauge(text string) (*Gauge, api.Errno) {
	if len(text) > api.MaxText {
		return nil, api.ErrLong
	}
	first, second, _ := strings.Cut(text, " ")
	bound, _ := strconv.Atoi(first)
	g, e := NewGauge(bound)
	if e != api.OK {
		return nil, api.ErrSyntax
	}
	if second == closedWord {
		g.Close()
	} else if mark, _ := strconv.Atoi(second); mark <= api.MaxTime-bound+1 {
		g.reached.raise(mark)
	}
	// A gauge has one text only: whatever is no number, or is one in another form or out of its range, does not come out again.
	if g.Text() != text {
		return nil, api.ErrSyntax
	}
	return g, api.OK
}

// Marks returns the mark behind each of the times.
func Marks(bound int, times []int) ([]int, api.Errno) {
	if len(times) > api.MaxRows {
		return nil, api.ErrInvalid
	}
	g, e := NewGauge(bound)
	if e != api.OK {
		return nil, e
	}
	marks := make([]int, len(times))
	for i, time := range times {
		if _, e := g.See(time); e != api.OK {
			return nil, e
		}
		marks[i] = g.Mark()
	}
	return marks, api.OK
}

// Sorted reads events by a gauge, and returns those that were not late and those that were, both in their order.
func Sorted(bound int, l []api.Event) (on, late []api.Event, e api.Errno) {
	if !areEvents(l) {
		return nil, nil, api.ErrInvalid
	}
	g, e := NewGauge(bound)
	if e != api.OK {
		return nil, nil, e
	}
	for event, isLate := range g.reading(l) {
		if isLate {
			late = append(late, event)
		} else {
			on = append(on, event)
		}
	}
	return on, late, api.OK
}

// reading yields copies of events, which are valid, as the gauge reads them, and whether each is late.
func (g *Gauge) reading(l []api.Event) iter.Seq2[api.Event, bool] {
	return func(yield func(api.Event, bool) bool) {
		for _, event := range l {
			late, _ := g.See(event.Time)
			if !yield(api.Event{Time: event.Time, Row: slices.Clone(event.Row)}, late) {
				return
			}
		}
	}
}

// isSpan reports whether n may be a bound or a drift.
func isSpan(n int) bool {
	return within(n, 0, api.MaxSpan)
}
