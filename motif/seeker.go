package motif

import (
	"cmp"
	"slices"

	"tidewright/api"
	"tidewright/mark"
)

// The marks go from none to the greatest, by which all matches are told.
const (
	none     = -api.MaxTime
	greatest = api.MaxTime + 1
)

// Seeker finds the matches of a pattern while events come. It holds those that a match may have that ends when the mark is reached, or that is still to be told.
type Seeker struct {
	schema  api.Schema
	pattern api.Pattern
	now     int
	told    int         // how many events it was told in all
	ended   int         // how many matches have ended below the mark, told or left out
	free    int         // no match is told that begins before this place of those that it holds
	events  []api.Event // in their order
}

// NewSeeker returns what finds the matches of a pattern, and was told nothing yet.
func NewSeeker(s api.Schema, p api.Pattern) (*Seeker, api.Errno) {
	if !Valid(s, p) {
		return nil, api.ErrInvalid
	}
	p.Stages = slices.Clone(p.Stages)
	return &Seeker{schema: slices.Clone(s), pattern: p, now: none}, api.OK
}

// Add tells an event.
func (k *Seeker) Add(e api.Event) api.Errno {
	switch {
	case !k.made() || !isEvent(k.schema, e):
		return api.ErrInvalid
	case mark.Late(e.Time, k.now):
		return api.ErrLate
	case k.told == maxEvents:
		return api.ErrLimit
	}
	e.Row = slices.Clone(e.Row)
	k.events = slices.Insert(k.events, k.count(func(x api.Event) bool { return compare(x, e) <= 0 }), e)
	k.told++
	return api.OK
}

// Mark goes to a mark, and returns the matches that are told by it, as their events.
func (k *Seeker) Mark(m int) ([][]api.Event, api.Errno) {
	switch {
	case !k.made():
		return nil, api.ErrInvalid
	case !within(m, k.now, greatest):
		return nil, api.ErrRange
	}
	all, e := k.below(m)
	if e != api.OK {
		return nil, e
	}
	ended := k.ended + len(k.since(all))
	if ended > api.MaxRows {
		return nil, api.ErrLimit
	}
	matches, free := k.decided(all, m)
	told := make([][]api.Event, len(matches))
	for i, match := range matches {
		told[i] = copied(picked(k.events, match))
	}
	gone := k.count(func(x api.Event) bool { return k.isGone(x, m) })
	k.now, k.ended, k.free = m, ended, max(free-gone, 0)
	k.events = slices.Clone(k.events[gone:]) // those that are gone are not to stay in its memory
	return told, api.OK
}

// Now returns the mark.
func (k *Seeker) Now() int {
	if !k.made() {
		return 0
	}
	return k.now
}

// Waiting returns how many events the seeker still holds.
func (k *Seeker) Waiting() int {
	if !k.made() {
		return 0
	}
	return len(k.events)
}

// made reports whether k is a seeker that NewSeeker made.
func (k *Seeker) made() bool {
	return k != nil && k.schema != nil
}

// below returns the matches of the events that it holds whose times are below a mark.
func (k *Seeker) below(m int) ([][]int, api.Errno) {
	events := k.events[:k.count(func(x api.Event) bool { return mark.Late(x.Time, m) })]
	return newFinder(k.schema, k.pattern, events).all()
}

// count returns how many of its events there are at the beginning of which is is true, and of none behind them.
func (k *Seeker) count(is func(x api.Event) bool) int {
	n := 0
	for n < len(k.events) && is(k.events[n]) {
		n++
	}
	return n
}

// since returns the matches that had not ended when the mark was reached.
func (k *Seeker) since(matches [][]int) [][]int {
	var l [][]int
	for _, match := range matches {
		if !mark.Late(k.events[last(match)].Time, k.now) {
			l = append(l, match)
		}
	}
	return l
}

// decided returns the matches, of all whose events are below a mark m, that are told by it, and the place before which none begins that is told behind them.
func (k *Seeker) decided(all [][]int, m int) ([][]int, int) {
	if k.pattern.Skip == 0 {
		l := k.since(all)
		slices.SortStableFunc(l, func(a, b []int) int { return cmp.Compare(last(a), last(b)) })
		return l, 0
	}
	// What leaves a match out begins at or before it, and so has ended as well.
	var l [][]int
	for _, match := range all {
		if k.isGone(k.events[match[0]], m) {
			l = append(l, match)
		}
	}
	return kept(k.pattern.Skip, l, k.free)
}

// isGone reports whether at a mark m no event is to come that may be in one match with x.
func (k *Seeker) isGone(x api.Event, m int) bool {
	return mark.Late(x.Time+k.pattern.Within, m) || m == greatest
}

func last(match []int) int {
	return match[len(match)-1]
}

// copied makes the rows of events new ones.
func copied(events []api.Event) []api.Event {
	for i := range events {
		events[i].Row = slices.Clone(events[i].Row)
	}
	return events
}
