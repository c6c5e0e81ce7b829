package pane

import (
	"maps"
	"slices"

	"tidewright/api"
	"tidewright/clock"
)

// Mark goes to a mark, and returns what the windows give that end by it. Those that are gone then are taken away.
func (p *Panes) Mark(m int) ([]api.Pane, api.Errno) {
	switch {
	case !p.made():
		return nil, api.ErrInvalid
	case !within(m, p.now, greatest):
		return nil, api.ErrRange
	case m == p.now: // at the greatest mark, too, where windows may end behind it
		return nil, api.OK
	}
	before := p.now
	p.now = m
	ends := func(w api.Window) bool { return w.To > before && p.ended(w) }
	var given []api.Pane
	for _, w := range p.those(ends) {
		given = append(given, p.fire(w, api.POn)...)
	}
	maps.DeleteFunc(p.windows, func(w api.Window, _ *state) bool { return p.gone(w) })
	return given, api.OK
}

// those returns the windows that are there of which is tells true, ascending. By their ends they ascend then, too: no window lies within another one.
func (p *Panes) those(is func(api.Window) bool) []api.Window {
	var l []api.Window
	for w := range p.windows {
		if is(w) {
			l = append(l, w)
		}
	}
	slices.SortFunc(l, clock.Compare)
	return l
}

// fire returns what a window gives back, and what it gives of the rows that it has. Of no rows it gives nothing.
func (p *Panes) fire(w api.Window, kind int) []api.Pane {
	given := p.takeBack(w)
	if s := p.windows[w]; len(s.contents) > 0 {
		given = append(given, p.give(w, kind))
	}
	return given
}

// give returns the next pane of a window, and remembers it.
func (p *Panes) give(w api.Window, kind int) api.Pane {
	s := p.windows[w]
	s.last = api.Pane{Window: w, Kind: kind, Number: s.next, Row: p.result(s.contents)}
	s.next++
	s.had = 0
	if p.Mode == api.MDiscard {
		s.contents = nil
	}
	given := s.last
	given.Row = slices.Clone(given.Row)
	return given
}

// takeBack returns the pane that a window gave last, to be given back, if there is one and the mode is to retract.
func (p *Panes) takeBack(w api.Window) []api.Pane {
	s := p.windows[w]
	if p.Mode != api.MRetract || !s.gave() {
		return nil
	}
	back := s.last
	back.Back = true
	s.last = api.Pane{}
	return []api.Pane{back}
}
