package pair

import (
	"cmp"
	"iter"
	"maps"
	"slices"
	"sort"

	"tidewright/api"
	"tidewright/bag"
	"tidewright/mark"
	"tidewright/row"
)

// side is how one of the two sides of a join meets the other one.
type side struct {
	cols      []int // of its keys
	width     int   // how many values its rows have, where that is told
	low, high int   // what the times of partners may be, less that of a row
	turned    bool  // it is the right one: its values stand behind its partners'
}

// table is a side with what is there of it, by the texts of keys: of each key ascending by Time, then Row, and nothing 0 times.
type table struct {
	side
	kept map[string][]api.Change
}

// newTables returns both sides of a join, where nothing is there. The times of right rows less those of left ones are from low to high.
func newTables(on, others []int, low, high int) (left, right *table) {
	l := side{cols: slices.Clone(on), low: low, high: high}
	r := side{cols: slices.Clone(others), low: -high, high: -low, turned: true}
	return l.empty(), r.empty()
}

// empty returns a table of a side where nothing is there.
func (s side) empty() *table {
	return &table{side: s, kept: map[string][]api.Change{}}
}

// has reports whether a row has the columns of the key.
func (s side) has(r api.Row) bool {
	return areColumns(s.cols, len(r))
}

// key returns the text of the key of a row that has its columns, and whether it can meet any: null is equal to nothing.
func (s side) key(r api.Row) (string, bool) {
	values, _ := row.Project(r, s.cols)
	return row.Text(values), !slices.Contains(values, api.Value{})
}

// joined returns the joined row of a row of this side and one of the other.
func (s side) joined(own, other api.Row) (api.Row, api.Errno) {
	if s.turned {
		return row.Concat(other, own)
	}
	return row.Concat(own, other)
}

// put tells the table a change of a row that has the columns of the key.
func (t *table) put(c api.Change) {
	key, _ := t.key(c.Row)
	l := t.kept[key]
	at, found := slices.BinarySearchFunc(l, c, byTime)
	switch {
	case !found:
		c.Row = slices.Clone(c.Row)
		l = slices.Insert(l, at, c)
	case l[at].N+c.N == 0:
		l = slices.Delete(l, at, at+1)
	default:
		l[at].N += c.N
	}
	t.keep(key, l)
}

// keep makes l what is there of a key.
func (t *table) keep(key string, l []api.Change) {
	if len(l) == 0 {
		delete(t.kept, key)
	} else {
		t.kept[key] = l
	}
}

// count returns how often the row of a change is there with its time.
func (t *table) count(c api.Change) int {
	key, _ := t.key(c.Row)
	l := t.kept[key]
	at, found := slices.BinarySearchFunc(l, c, byTime)
	if !found {
		return 0
	}
	return l[at].N
}

// size returns how many different rows with their times are there.
func (t *table) size() int {
	n := 0
	for _, l := range t.kept {
		n += len(l)
	}
	return n
}

// only returns a table with a copy of what is there of a key.
func (t *table) only(key string) *table {
	part := t.empty()
	part.keep(key, slices.Clone(t.kept[key]))
	return part
}

// partners yields what is there in the other table that a row of this side meets, ascending by Time, then Row.
func (t *table) partners(c api.Change, other *table) iter.Seq[api.Change] {
	return func(yield func(api.Change) bool) {
		key, meets := t.key(c.Row)
		if !meets {
			return
		}
		l := other.kept[key]
		for _, p := range l[below(l, c.Time+t.low):below(l, c.Time+t.high+1)] {
			if !yield(p) {
				return
			}
		}
	}
}

// join returns the changes of joined rows that a change of this side makes, ascending by Row, then Time.
func (t *table) join(c api.Change, other *table) ([]api.Change, api.Errno) {
	var l []api.Change
	for p := range t.partners(c, other) {
		r, e := t.joined(c.Row, p.Row)
		both := api.Change{Time: max(c.Time, p.Time), Row: r, N: c.N * p.N}
		if e != api.OK || !bag.ValidChange(both) || len(l) == api.MaxRows {
			return nil, api.ErrLimit
		}
		l = append(l, both)
	}
	// Partners ascend by Time, so those of one row stay ascending.
	slices.SortStableFunc(l, func(a, b api.Change) int { return row.Compare(a.Row, b.Row) })
	return l, api.OK
}

// cut takes away the beginning of what is there of each key, as far as length tells, and returns it.
func (t *table) cut(length func(l []api.Change) int) []api.Change {
	var off []api.Change
	for _, key := range slices.Sorted(maps.Keys(t.kept)) {
		l := t.kept[key]
		if n := length(l); n > 0 {
			off = append(off, l[:n]...)
			t.keep(key, slices.Clone(l[n:])) // what is off is not to stay in its memory
		}
	}
	return off
}

// below returns how many of changes that ascend by Time have one below a mark.
func below(l []api.Change, m int) int {
	return sort.Search(len(l), func(i int) bool { return !mark.Late(l[i].Time, m) })
}

// byTime orders changes by Time, then Row.
func byTime(a, b api.Change) int {
	return cmp.Or(cmp.Compare(a.Time, b.Time), row.Compare(a.Row, b.Row))
}

// compareEvents orders events by Time, then Row.
func compareEvents(a, b api.Event) int {
	return byTime(once(a), once(b))
}
