package pair

import (
	"slices"

	"tidewright/api"
	"tidewright/mark"
)

// Versioner does the version join while events come. It keeps left ones until the mark has passed their times, by which all versions are known, and right ones as long as a left one may ask for them.
type Versioner struct {
	left, right *table
	now         int
	waiting     int // left events that were not told joined
	versions    int // right events that it was told in all
}

// NewVersioner returns a versioner that was told nothing.
func NewVersioner(on, others []int, width int) (*Versioner, api.Errno) {
	switch {
	case !areKeys(on, others):
		return nil, api.ErrSize
	case !areColumns(on, api.MaxColumns) || !areColumns(others, width) || !isWidth(width):
		return nil, api.ErrRange
	}
	v := &Versioner{now: none}
	v.left, v.right = newTables(on, others, -2*api.MaxTime, 0) // a version may be as old as times reach
	v.right.width = width
	return v, api.OK
}

// Left tells a left event.
func (v *Versioner) Left(e api.Event) api.Errno {
	switch {
	case !v.made() || !isEvent(e):
		return api.ErrInvalid
	case !v.left.has(e.Row):
		return api.ErrRange
	case mark.Late(e.Time, v.now):
		return api.ErrLate
	case !haveRoom(len(e.Row), v.right.width) || v.waiting == api.MaxRows:
		return api.ErrLimit
	}
	v.left.put(once(e))
	v.waiting++
	return api.OK
}

// Right tells a right event.
func (v *Versioner) Right(e api.Event) api.Errno {
	switch {
	case !v.made() || !isEvent(e):
		return api.ErrInvalid
	case len(e.Row) != v.right.width:
		return api.ErrSize
	case mark.Late(e.Time, v.now):
		return api.ErrLate
	case v.versions == api.MaxRows:
		return api.ErrLimit
	}
	v.right.put(once(e))
	v.versions++
	return api.OK
}

// Mark goes to a mark, and returns the joined left events below it that were not told, ascending.
func (v *Versioner) Mark(m int) ([]api.Event, api.Errno) {
	switch {
	case !v.made():
		return nil, api.ErrInvalid
	case !within(m, v.now, greatest):
		return nil, api.ErrRange
	}
	v.now = m
	var told []api.Event
	for _, c := range v.left.cut(func(l []api.Change) int { return below(l, m) }) {
		told = append(told, events(v.withVersion(c))...)
	}
	slices.SortFunc(told, compareEvents)
	v.waiting -= len(told)
	// Of the versions below the mark only the newest of each key is asked for by what comes now.
	v.right.cut(func(l []api.Change) int { return max(below(l, m)-1, 0) })
	return told, api.OK
}

// made reports whether v is a versioner that NewVersioner made.
func (v *Versioner) made() bool {
	return v != nil && v.left != nil
}

// withVersion returns a left change with its row joined with the newest version.
func (v *Versioner) withVersion(c api.Change) api.Change {
	newest := make(api.Row, v.right.width) // nulls
	for p := range v.left.partners(c, v.right) {
		newest = p.Row
	}
	c.Row, _ = v.left.joined(c.Row, newest) // that there is room was asked when it came
	return c
}
