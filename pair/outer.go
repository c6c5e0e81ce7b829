package pair

import (
	"iter"
	"maps"
	"slices"

	"tidewright/api"
	"tidewright/bag"
	"tidewright/row"
)

// outer returns the outer join of a kind of two tables without times, of which no row is there less than 0 times, and which have room for each other.
func outer(kind int, l, r *table) (api.Bag, api.Errno) {
	kinds := [...]func(l, r *table) iter.Seq[api.Item]{inner, withLeft, withRight, full}
	found := map[string]api.Item{}
	for item := range kinds[kind](l, r) {
		text := row.Text(item.Row)
		item.N += found[text].N
		found[text] = item
		if len(found) > api.MaxRows { // whatever is still to come takes no row away, and there may be many
			return nil, api.ErrLimit
		}
	}
	b := api.Bag(slices.SortedFunc(maps.Values(found), func(x, y api.Item) int { return row.Compare(x.Row, y.Row) }))
	if !bag.Valid(b) {
		return nil, api.ErrLimit
	}
	return b, api.OK
}

// inner yields the joined rows of all partners.
func inner(l, r *table) iter.Seq[api.Item] {
	return func(yield func(api.Item) bool) {
		for c := range l.all() {
			for p := range l.partners(c, r) {
				both, _ := l.joined(c.Row, p.Row)
				if !yield(api.Item{Row: both, N: c.N * p.N}) {
					return
				}
			}
		}
	}
}

func withLeft(l, r *table) iter.Seq[api.Item] {
	return chained(inner(l, r), l.alone(r))
}

func withRight(l, r *table) iter.Seq[api.Item] {
	return chained(inner(l, r), r.alone(l))
}

func full(l, r *table) iter.Seq[api.Item] {
	return chained(withLeft(l, r), r.alone(l))
}

// chained yields what two iterators yield.
func chained(first, second iter.Seq[api.Item]) iter.Seq[api.Item] {
	return func(yield func(api.Item) bool) {
		for _, l := range []iter.Seq[api.Item]{first, second} {
			for item := range l {
				if !yield(item) {
					return
				}
			}
		}
	}
}

// alone yields the table's rows that have no partner, with nulls in its place.
func (t *table) alone(other *table) iter.Seq[api.Item] {
	return func(yield func(api.Item) bool) {
		for c := range t.all() {
			if t.meetsAny(c, other) {
				continue
			}
			both, _ := t.joined(c.Row, make(api.Row, other.width))
			if !yield(api.Item{Row: both, N: c.N}) {
				return
			}
		}
	}
}

// meetsAny reports whether a row has a partner.
func (t *table) meetsAny(c api.Change, other *table) bool {
	for range t.partners(c, other) {
		return true
	}
	return false
}

// all yields all that is there. What is told of it must not depend on its order.
func (t *table) all() iter.Seq[api.Change] {
	return func(yield func(api.Change) bool) {
		for _, l := range t.kept {
			for _, c := range l {
				if !yield(c) {
					return
				}
			}
		}
	}
}
