package clock

import (
	"iter"
	"slices"

	"tidewright/api"
)

// Merge returns the windows that are left when all that touch are put together, ascending.
func Merge(l []api.Window) ([]api.Window, api.Errno) {
	invalid := func(w api.Window) bool { return !ValidWindow(w) }
	if len(l) > api.MaxRows || slices.ContainsFunc(l, invalid) {
		return nil, api.ErrInvalid
	}
	return merged(slices.Values(l), Touch), api.OK
}

// Sessions returns the sessions of times, ascending.
func Sessions(gap int, times []int) ([]api.Window, api.Errno) {
	if e := checkSessions(gap, times); e != api.OK {
		return nil, e
	}
	return merged(sessionsOf(gap, times), Touch), api.OK
}

// Session returns the session of times that contains the time t.
func Session(gap int, times []int, t int) (api.Window, api.Errno) {
	if e := checkSessions(gap, times); e != api.OK {
		return api.Window{}, e
	}
	if !Valid(t) {
		return api.Window{}, api.ErrRange
	}
	for _, w := range merged(sessionsOf(gap, times), Touch) {
		if Contains(w, t) {
			return w, api.OK
		}
	}
	return api.Window{}, api.ErrNone
}

func checkSessions(gap int, times []int) api.Errno {
	if len(times) > api.MaxRows {
		return api.ErrInvalid
	}
	invalid := func(t int) bool { return !Valid(t) }
	if !within(gap, 1, api.MaxSpan) || slices.ContainsFunc(times, invalid) {
		return api.ErrRange
	}
	return api.OK
}

// sessionOf returns the window of a single time.
func sessionOf(gap, t int) api.Window {
	return api.Window{From: t, To: t + gap}
}

// sessionsOf yields the windows of times before they are merged.
func sessionsOf(gap int, times []int) iter.Seq[api.Window] {
	return func(yield func(api.Window) bool) {
		for _, t := range times {
			if !yield(sessionOf(gap, t)) {
				return
			}
		}
	}
}

// merged puts together the windows that meet, as touch finds them. In ascending order each needs to be held only against the last of those that are left: the ones before that end at or before its beginning.
func merged(windows iter.Seq[api.Window], touch func(a, b api.Window) bool) []api.Window {
	var left []api.Window
	for _, w := range slices.SortedFunc(windows, Compare) {
		last := len(left) - 1
		if last >= 0 && touch(left[last], w) {
			left[last].To = max(left[last].To, w.To)
		} else {
			left = append(left, w)
		}
	}
	return left
}
