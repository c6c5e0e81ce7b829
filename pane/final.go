package pane

import (
	"iter"
	"maps"
	"slices"

	"tidewright/api"
	"tidewright/clock"
	"tidewright/row"
)

// key is all of a pane but whether it is given back.
type key struct {
	window       api.Window
	kind, number int
	row          string
}

// Final returns the panes that were given last, those given back left out: one of each window at most, ascending.
func Final(l []api.Pane) ([]api.Pane, api.Errno) {
	if slices.ContainsFunc(l, func(x api.Pane) bool { return !row.Valid(x.Row) }) {
		return nil, api.ErrInvalid
	}
	left, ok := leftOf(l)
	if !ok {
		return nil, api.ErrState
	}
	last := map[api.Window]api.Pane{}
	for x := range left {
		x.Row = slices.Clone(x.Row)
		last[x.Window] = x
	}
	return slices.SortedFunc(maps.Values(last), ComparePanes), api.OK
}

// leftOf yields the panes that are not given back, in their order; false if one is given back that is not there. Each that is given back takes the last equal one away.
func leftOf(l []api.Pane) (iter.Seq[api.Pane], bool) {
	there := make([]bool, len(l))
	places := map[key][]int{}
	for i, x := range l {
		k := key{window: x.Window, kind: x.Kind, number: x.Number, row: row.Text(x.Row)}
		if !x.Back {
			there[i] = true
			places[k] = append(places[k], i)
			continue
		}
		last := len(places[k]) - 1
		if last < 0 {
			return nil, false
		}
		there[places[k][last]] = false
		places[k] = places[k][:last]
	}
	return func(yield func(api.Pane) bool) {
		for i, x := range l {
			if there[i] && !yield(x) {
				return
			}
		}
	}, true
}

// Batch returns the panes that the windows of events give if each of them has all its rows when it ends, ascending by windows.
func Batch(s Setup, l []api.Event) ([]api.Pane, api.Errno) {
	// Nothing is late, given early or discarded if the mark goes from none to the greatest.
	p, e := New(s)
	if e != api.OK {
		return nil, e
	}
	p.Early = 0
	misfit := func(x api.Event) bool { return !p.fits(x.Row) }
	if len(l) > api.MaxRows || slices.ContainsFunc(l, misfit) {
		return nil, api.ErrInvalid
	}
	if slices.ContainsFunc(l, func(x api.Event) bool { return !clock.Valid(x.Time) }) {
		return nil, api.ErrRange
	}
	for _, x := range l {
		if _, e := p.Add(x.Time, x.Row, 1); e != api.OK {
			return nil, e
		}
	}
	return p.Mark(greatest)
}
