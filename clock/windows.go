package clock

import (
	"iter"
	"slices"

	"tidewright/api"
)

// Windows returns the windows of the time t, ascending.
func Windows(s api.Spec, t int) ([]api.Window, api.Errno) {
	if !ValidSpec(s) {
		return nil, api.ErrInvalid
	}
	if !Valid(t) {
		return nil, api.ErrRange
	}
	switch s.Kind {
	case api.WSession:
		return []api.Window{sessionOf(s.Gap, t)}, api.OK
	case api.WGlobal:
		return []api.Window{{From: -api.MaxTime, To: api.MaxTime + 1}}, api.OK
	}
	return slices.Collect(covering(s, t, t)), api.OK
}

// Between returns the windows of a tumbling or sliding spec that contain some time from from to to, ascending.
func Between(s api.Spec, from, to int) ([]api.Window, api.Errno) {
	if !ValidSpec(s) {
		return nil, api.ErrInvalid
	}
	if !Valid(from) || !Valid(to) || to < from {
		return nil, api.ErrRange
	}
	if step(s) == 0 {
		return nil, api.ErrKind
	}
	var l []api.Window
	for w := range covering(s, from, to) {
		if len(l) == api.MaxRows {
			return nil, api.ErrLimit
		}
		l = append(l, w)
	}
	return l, api.OK
}

// Next returns the least time after t at which a window of a tumbling or sliding spec ends.
func Next(s api.Spec, t int) (int, api.Errno) {
	if !ValidSpec(s) {
		return 0, api.ErrInvalid
	}
	if !Valid(t) {
		return 0, api.ErrRange
	}
	if step(s) == 0 {
		return 0, api.ErrKind
	}
	return startAfter(s, t-s.Size) + s.Size, api.OK
}

// step returns how far the windows of a spec begin from each other; 0 if no number tells that.
func step(s api.Spec) int {
	switch s.Kind {
	case api.WTumbling:
		return s.Size
	case api.WSliding:
		return s.Step
	}
	return 0
}

// covering yields, ascending, the windows of a tumbling or sliding spec that contain some time from from to to. It is an iterator since there may be far more of them than are asked for.
func covering(s api.Spec, from, to int) iter.Seq[api.Window] {
	return func(yield func(api.Window) bool) {
		for at := startAfter(s, from-s.Size); at <= to; at += step(s) {
			if !yield(api.Window{From: at, To: at + s.Size}) {
				return
			}
		}
	}
}

// startAfter returns the least number above t at which a window of a tumbling or sliding spec begins.
func startAfter(s api.Spec, t int) int {
	return (floor(t-s.Shift, step(s))+1)*step(s) + s.Shift
}
