package mark

import (
	"slices"

	"tidewright/api"
	"tidewright/clock"
)

// areEvents reports whether l is events, and not too many of them.
func areEvents(l []api.Event) bool {
	invalid := func(event api.Event) bool { return !clock.Valid(event.Time) || !isRow(event.Row) }
	return len(l) <= api.MaxRows && !slices.ContainsFunc(l, invalid)
}

// isRow reports whether r is a row as layer 2 has them. This layer does not call that one, so it asks for itself.
func isRow(r api.Row) bool {
	invalid := func(v api.Value) bool { return !isValue(v) }
	return len(r) <= api.MaxColumns && !slices.ContainsFunc(r, invalid)
}

func isValue(v api.Value) bool {
	switch v.Kind {
	case api.VInt:
		return v.S == "" && within(v.N, -api.MaxInt, api.MaxInt)
	case api.VText:
		return v.N == 0 && len(v.S) <= api.MaxString
	}
	return v == api.Value{} // null: no other kind is 0
}
