package bag

import (
	"maps"
	"slices"

	"tidewright/api"
	"tidewright/row"
)

// Distinct returns once each row that comes more than 0 times.
func Distinct(b api.Bag) (api.Bag, api.Errno) {
	return combined(b, nil, func(inB, _ int) int { return min(max(inB, 0), 1) })
}

// Meet returns each row as often as it comes in that bag where it comes less often.
func Meet(a, b api.Bag) (api.Bag, api.Errno) {
	return combined(a, b, func(inA, inB int) int { return min(inA, inB) })
}

// Join returns each row as often as it comes in that bag where it comes more often.
func Join(a, b api.Bag) (api.Bag, api.Errno) {
	return combined(a, b, func(inA, inB int) int { return max(inA, inB) })
}

// Within reports whether no row comes more often in a than in b; false if either is not valid.
func Within(a, b api.Bag) bool {
	if !Valid(a) || !Valid(b) {
		return false
	}
	for p := range pairs(a, b) {
		if p.a > p.b {
			return false
		}
	}
	return true
}

// Project returns the bag of the rows' values of some columns.
func Project(b api.Bag, cols []int) (api.Bag, api.Errno) {
	if !Valid(b) {
		return nil, api.ErrInvalid
	}
	if !areColumns(cols, common(b, nil)) {
		return nil, api.ErrRange
	}
	if len(cols) > api.MaxColumns {
		return nil, api.ErrLimit
	}
	items := make([]api.Item, len(b))
	for i, item := range b {
		r, _ := row.Project(item.Row, cols) // all that could be wrong has been asked
		items[i] = api.Item{Row: r, N: item.N}
	}
	return gatheredBag(items)
}

// Rows returns each row of a whole bag as often as it comes, ascending.
func Rows(b api.Bag) ([]api.Row, api.Errno) {
	if !Valid(b) {
		return nil, api.ErrInvalid
	}
	if !Whole(b) {
		return nil, api.ErrState
	}
	if Total(b) > api.MaxRows {
		return nil, api.ErrLimit
	}
	var l []api.Row
	for _, item := range b {
		for range item.N {
			l = append(l, slices.Clone(item.Row))
		}
	}
	return l, api.OK
}

// Upserts returns the bag b after changes, one after the other, each of which takes all rows of its key away, and puts its own there if it adds.
func Upserts(b api.Bag, l []api.Change, key []int) (api.Bag, api.Errno) {
	if !Valid(b) || !validChanges(l) {
		return nil, api.ErrInvalid
	}
	if len(key) == 0 || !areColumns(key, common(b, l)) {
		return nil, api.ErrRange
	}
	cols := slices.Compact(slices.Sorted(slices.Values(key))) // a key may name a column more often than a row has columns
	keyed := make(map[string][]api.Item, len(b))
	for _, item := range b {
		text := keyText(item.Row, cols)
		keyed[text] = append(keyed[text], item)
	}
	for _, c := range l {
		text := keyText(c.Row, cols)
		delete(keyed, text)
		if c.N > 0 {
			keyed[text] = []api.Item{{Row: c.Row, N: 1}}
		}
	}
	items := slices.Concat(slices.Collect(maps.Values(keyed))...)
	slices.SortFunc(items, func(x, y api.Item) int { return row.Compare(x.Row, y.Row) })
	return asBag(items)
}

// keyText returns the text of a row's values of columns, each of which there is, and none of which stands twice.
func keyText(r api.Row, cols []int) string {
	key, _ := row.Project(r, cols)
	return row.Text(key)
}

// common returns how many columns all rows of a bag and of changes have; as many as a row may have if there are none.
func common(b api.Bag, l []api.Change) int {
	count := api.MaxColumns
	for _, item := range b {
		count = min(count, len(item.Row))
	}
	for _, c := range l {
		count = min(count, len(c.Row))
	}
	return count
}

// areColumns reports whether each of cols is one of so many columns.
func areColumns(cols []int, count int) bool {
	beyond := func(c int) bool { return c < 0 || c >= count }
	return !slices.ContainsFunc(cols, beyond)
}
