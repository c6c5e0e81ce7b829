package pair

import (
	"slices"

	"tidewright/api"
	"tidewright/clock"
	"tidewright/row"
)

// maxEvents bounds the events of a list.
const maxEvents = 100

// The marks go from none to the greatest, behind which nothing is to come.
const (
	none     = -api.MaxTime
	greatest = api.MaxTime + 1
)

// areEvents reports whether l is events, and not too many of them.
func areEvents(l []api.Event) bool {
	invalid := func(event api.Event) bool { return !isEvent(event) }
	return len(l) <= maxEvents && !slices.ContainsFunc(l, invalid)
}

func isEvent(event api.Event) bool {
	return clock.Valid(event.Time) && row.Valid(event.Row)
}

// areKeys reports whether the columns of both sides may be keys, whatever columns there are.
func areKeys(on, others []int) bool {
	return len(on) == len(others) && len(on) <= api.MaxColumns
}

// areColumns reports whether each of cols is one of so many columns.
func areColumns(cols []int, count int) bool {
	beyond := func(c int) bool { return c < 0 || c >= count }
	return !slices.ContainsFunc(cols, beyond)
}

// common returns how many columns all rows of events have; as many as a row may have if there are none.
func common(l []api.Event) int {
	count := api.MaxColumns
	for _, event := range l {
		count = min(count, len(event.Row))
	}
	return count
}

// areWide reports whether all rows of a bag have so many values.
func areWide(b api.Bag, width int) bool {
	other := func(item api.Item) bool { return len(item.Row) != width }
	return !slices.ContainsFunc(b, other)
}

func isWidth(n int) bool {
	return within(n, 0, api.MaxColumns)
}

// haveRoom reports whether a row has room for as many values as two widths are together.
func haveRoom(wide, width int) bool {
	less, more := min(wide, width), max(wide, width)
	return more < 0 || less <= api.MaxColumns-more // the sum itself may be beyond all numbers
}

func isInterval(low, high int) bool {
	return -api.MaxSpan <= low && low <= high && high <= api.MaxSpan
}

// isCount reports whether a row may be there n times, be it taken back more often than it came.
func isCount(n int) bool {
	return within(n, -api.MaxCount, api.MaxCount)
}

func within(n, least, most int) bool {
	return least <= n && n <= most
}
