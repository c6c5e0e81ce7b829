// Package clock tells which windows a time lies in.
package clock

import "tidewright/api"

// overlap bounds how many windows of a sliding spec contain one time.
const overlap = 50

// Valid reports whether t is a time.
func Valid(t int) bool {
	return within(t, -api.MaxTime, api.MaxTime)
}

// ValidWindow reports whether w is a window. It may reach as far beyond the times as they reach from 0, since a window of a valid time may.
func ValidWindow(w api.Window) bool {
	return w.From < w.To && w.From >= -2*api.MaxTime && w.To <= 2*api.MaxTime
}

// ValidSpec reports whether the fields of s are those of its kind, and all others 0.
func ValidSpec(s api.Spec) bool {
	switch s.Kind {
	case api.WTumbling:
		return s == api.Spec{Kind: s.Kind, Size: s.Size, Shift: s.Shift} &&
			within(s.Size, 1, api.MaxSpan) && within(s.Shift, 0, s.Size-1)
	case api.WSliding:
		return s == api.Spec{Kind: s.Kind, Size: s.Size, Step: s.Step, Shift: s.Shift} &&
			within(s.Size, 1, api.MaxSpan) && within(s.Step, 1, s.Size) &&
			s.Size <= overlap*s.Step && within(s.Shift, 0, s.Step-1)
	case api.WSession:
		return s == api.Spec{Kind: s.Kind, Gap: s.Gap} && within(s.Gap, 1, api.MaxSpan)
	case api.WGlobal:
		return s == api.Spec{Kind: s.Kind}
	}
	return false
}

// Contains reports whether the time t is in the window w; false if either is not valid.
func Contains(w api.Window, t int) bool {
	return ValidWindow(w) && Valid(t) && w.From <= t && t < w.To
}

// Touch reports whether two windows have a time in common; false if either is not valid.
func Touch(a, b api.Window) bool {
	return ValidWindow(a) && ValidWindow(b) && a.From < b.To && b.From < a.To
}

// Compare orders any two windows, valid or not, by From, then To.
func Compare(a, b api.Window) int {
	switch {
	case a == b:
		return 0
	case a.From < b.From, a.From == b.From && a.To < b.To:
		return -1
	}
	return 1
}

// Floor returns a / b rounded down.
func Floor(a, b int) (int, api.Errno) {
	if !within(a, -api.MaxInt, api.MaxInt) || !within(b, 1, api.MaxSpan) {
		return 0, api.ErrRange
	}
	return floor(a, b), api.OK
}

// floor is Floor of numbers that are known to be in range.
func floor(a, b int) int {
	q := a / b
	if a%b < 0 { // Go's division rounds towards 0
		q--
	}
	return q
}

func within(n, least, greatest int) bool {
	return least <= n && n <= greatest
}
