package pane

import (
	"slices"

	"tidewright/api"
	"tidewright/bag"
	"tidewright/clock"
)

// place is a window that a row goes into, and those that are there of which it is made, ascending: the window itself, or the sessions that merge into it.
type place struct {
	window api.Window
	of     []api.Window
}

// Add puts a row with a time n times into the windows of the time (below 0: takes it out), and returns the panes that are given by it.
func (p *Panes) Add(time int, r api.Row, n int) ([]api.Pane, api.Errno) {
	switch {
	case !p.made() || !p.fits(r):
		return nil, api.ErrInvalid
	case !clock.Valid(time) || !isCount(n):
		return nil, api.ErrRange
	}
	places := p.places(time)
	if len(places) == 0 {
		return nil, api.ErrLate
	}
	// All that may be wrong is asked before anything changes.
	if !p.has(places, r, -n) {
		return nil, api.ErrState
	}
	contents, e := p.filled(places, api.Item{Row: r, N: n})
	if e != api.OK || !p.hasRoom(places) {
		return nil, api.ErrLimit
	}
	var given []api.Pane
	for i, at := range places {
		given = append(given, p.merge(at)...)
		given = append(given, p.put(at.window, contents[i], max(n, 1))...)
	}
	return given, api.OK
}

// places returns where a row with a time goes, ascending, but for the windows that are gone.
func (p *Panes) places(time int) []place {
	windows, _ := clock.Windows(p.Spec, time)
	var l []place
	for _, w := range windows {
		if at := p.place(w); !p.gone(at.window) {
			l = append(l, at)
		}
	}
	return l
}

// place returns where a row goes whose time has the window w.
func (p *Panes) place(w api.Window) place {
	at := place{window: w}
	if p.Spec.Kind != api.WSession {
		if _, ok := p.windows[w]; ok {
			at.of = []api.Window{w}
		}
		return at
	}
	// No two sessions that are there touch, so none of them touches the merged one that does not touch w.
	at.of = p.those(func(v api.Window) bool { return clock.Touch(v, w) })
	for _, v := range at.of {
		at.window = api.Window{From: min(at.window.From, v.From), To: max(at.window.To, v.To)}
	}
	return at
}

// has reports whether a row may be taken out n times at all places.
func (p *Panes) has(places []place, r api.Row, n int) bool {
	for _, at := range places {
		there := 0
		for _, w := range at.of {
			there += bag.Count(p.windows[w].contents, r)
		}
		if there < n {
			return false
		}
	}
	return true
}

// hasRoom reports whether the windows are not too many when places are among them, in place of those of which they are made.
func (p *Panes) hasRoom(places []place) bool {
	windows := len(p.windows)
	for _, at := range places {
		windows += 1 - len(at.of)
	}
	return windows <= api.MaxRows
}

// filled returns the contents of places with an item more.
func (p *Panes) filled(places []place, item api.Item) ([]api.Bag, api.Errno) {
	contents := make([]api.Bag, len(places))
	for i, at := range places {
		whole, e := p.together(at.of)
		if e == api.OK {
			whole, e = bag.Sum(whole, api.Bag{item})
		}
		if e != api.OK {
			return nil, e
		}
		contents[i] = whole
	}
	return contents, api.OK
}

// together returns the contents of windows, put together.
func (p *Panes) together(windows []api.Window) (api.Bag, api.Errno) {
	if len(windows) == 0 {
		return nil, api.OK
	}
	whole := p.windows[windows[0]].contents
	for _, w := range windows[1:] {
		more, e := bag.Sum(whole, p.windows[w].contents)
		if e != api.OK {
			return nil, e
		}
		whole = more
	}
	return whole, api.OK
}

// merge lets a window begin in place of those of which it is made, and returns what they give back. A window that is there already goes on.
func (p *Panes) merge(at place) []api.Pane {
	if slices.Equal(at.of, []api.Window{at.window}) {
		return nil
	}
	merged := &state{}
	var back []api.Pane
	for _, w := range at.of {
		back = append(back, p.takeBack(w)...)
		merged.had += p.windows[w].had
		delete(p.windows, w)
	}
	p.windows[at.window] = merged
	return back
}

// put gives a window its contents, by so many rows more, and returns what it gives.
func (p *Panes) put(w api.Window, contents api.Bag, rows int) []api.Pane {
	s := p.windows[w]
	s.contents = contents
	s.had = min(s.had+rows, p.Early)
	switch {
	case p.ended(w):
		return p.fire(w, api.PLate)
	case p.Early > 0 && s.had == p.Early:
		return p.fire(w, api.PEarly)
	}
	return nil
}

// isCount reports whether a row may come n times.
func isCount(n int) bool {
	return n != 0 && within(n, -api.MaxCount, api.MaxCount)
}
