package pair

import (
	"tidewright/api"
	"tidewright/bag"
	"tidewright/mark"
)

// Joiner does the interval join while changes come. It keeps those that may meet one that is still to come.
type Joiner struct {
	left, right *table
	now         int
}

// NewJoiner returns a joiner that was told nothing.
func NewJoiner(on, others []int, low, high int) (*Joiner, api.Errno) {
	switch {
	case !areKeys(on, others):
		return nil, api.ErrSize
	case !areColumns(on, api.MaxColumns) || !areColumns(others, api.MaxColumns) || !isInterval(low, high):
		return nil, api.ErrRange
	}
	j := &Joiner{now: none}
	j.left, j.right = newTables(on, others, low, high)
	return j, api.OK
}

// Left tells a change of the left side, and returns those of the joined rows.
func (j *Joiner) Left(c api.Change) ([]api.Change, api.Errno) {
	if !j.made() {
		return nil, api.ErrInvalid
	}
	return j.tell(c, j.left, j.right)
}

// Right tells a change of the right side, and returns those of the joined rows.
func (j *Joiner) Right(c api.Change) ([]api.Change, api.Errno) {
	if !j.made() {
		return nil, api.ErrInvalid
	}
	return j.tell(c, j.right, j.left)
}

// Mark goes to a mark, and lets go what nothing that is still to come can meet.
func (j *Joiner) Mark(m int) ([]api.Change, api.Errno) {
	switch {
	case !j.made():
		return nil, api.ErrInvalid
	case !within(m, j.now, greatest):
		return nil, api.ErrRange
	}
	j.now = m
	for _, t := range []*table{j.left, j.right} {
		t.cut(func(l []api.Change) int { return below(l, m-t.high) })
	}
	return nil, api.OK
}

// Held returns how many different rows with their times are kept of each side.
func (j *Joiner) Held() (left, right int) {
	if !j.made() {
		return 0, 0
	}
	return j.left.size(), j.right.size()
}

// made reports whether j is a joiner that NewJoiner made.
func (j *Joiner) made() bool {
	return j != nil && j.left != nil
}

// tell tells a change of one of both sides.
func (j *Joiner) tell(c api.Change, own, other *table) ([]api.Change, api.Errno) {
	switch {
	case !bag.ValidChange(c):
		return nil, api.ErrInvalid
	case !own.has(c.Row):
		return nil, api.ErrRange
	case mark.Late(c.Time, j.now):
		return nil, api.ErrLate
	case !isCount(own.count(c) + c.N):
		return nil, api.ErrLimit
	}
	l, e := own.join(c, other)
	if e != api.OK {
		return nil, e
	}
	own.put(c)
	return l, api.OK
}
