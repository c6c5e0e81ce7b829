package pane

import (
	"slices"

	"tidewright/api"
	"tidewright/bag"
	"tidewright/clock"
	"tidewright/row"
)

// takes reports whether w is a window of the group's times that may stand beside those that are there: not gone, and apart from them.
func (p *Panes) takes(w api.Window) bool {
	return makes(p.Spec, w) && !p.gone(w) && len(p.place(w).of) == 0
}

// makes reports whether w is a window of a spec: one of its first time; or a session of that and of another time, or of many between.
func makes(s api.Spec, w api.Window) bool {
	if s.Kind == api.WSession {
		last := w.To - s.Gap
		return clock.Valid(w.From) && clock.Valid(last) && w.From <= last
	}
	windows, _ := clock.Windows(s, max(w.From, -api.MaxTime))
	return slices.Contains(windows, w)
}

// keeps reports whether s may be what the group keeps of a window.
func (p *Panes) keeps(w api.Window, s *state) bool {
	if !p.holds(s.contents) || !within(s.had, 0, p.Early) || !p.counts(s) {
		return false
	}
	if p.ended(w) {
		return p.settled(s)
	}
	return p.waits(s)
}

// holds reports whether b may be the contents of a window.
func (p *Panes) holds(b api.Bag) bool {
	misfit := func(item api.Item) bool { return !p.fits(item.Row) }
	return bag.Whole(b) && !slices.ContainsFunc(b, misfit)
}

// counts reports whether the number of the next pane and the pane that was given last fit each other.
func (p *Panes) counts(s *state) bool {
	switch {
	case !within(s.next, 0, api.MaxInt):
		return false
	case !s.gave():
		return s.next == 0 || p.Mode == api.MRetract
	}
	return s.next > 0 && within(s.last.Kind, api.PEarly, api.PLate) && len(s.last.Row) == len(p.Aggs)
}

// waits reports whether s may be kept of a window that has not ended: it has given early panes alone, each as soon as it could.
func (p *Panes) waits(s *state) bool {
	if p.Early == 0 {
		return s.next == 0
	}
	return s.last.Kind <= api.PEarly && (len(s.contents) == 0 || s.had < p.Early)
}

// settled reports whether s may be kept of a window that has ended: it has given all that it has.
func (p *Panes) settled(s *state) bool {
	if len(s.contents) == 0 {
		return p.Mode != api.MRetract || !s.gave()
	}
	return p.Mode != api.MDiscard && s.had == 0 && s.last.Kind > api.PEarly && row.Compare(s.last.Row, p.result(s.contents)) == 0
}
