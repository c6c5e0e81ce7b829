package bag

import (
	"iter"
	"maps"
	"slices"

	"tidewright/api"
	"tidewright/row"
)

// pair is a row, and how often it comes in each of two bags.
type pair struct {
	row  api.Row
	a, b int
}

// pairs yields, ascending, the rows that are in at least one of two valid bags.
func pairs(a, b api.Bag) iter.Seq[pair] {
	return func(yield func(pair) bool) {
		for i, j := 0, 0; i < len(a) || j < len(b); {
			var p pair
			c := compareFirst(a[i:], b[j:])
			if c <= 0 {
				p.row, p.a = a[i].Row, a[i].N
				i++
			}
			if c >= 0 {
				p.row, p.b = b[j].Row, b[j].N
				j++
			}
			if !yield(p) {
				return
			}
		}
	}
}

// compareFirst orders two bags, not both empty, by the first row of each, with an empty one last.
func compareFirst(a, b api.Bag) int {
	switch {
	case len(b) == 0:
		return -1
	case len(a) == 0:
		return 1
	}
	return row.Compare(a[0].Row, b[0].Row)
}

// combined returns the bag of two bags' rows, each as often as become tells from how often it comes in a and in b.
func combined(a, b api.Bag, become func(inA, inB int) int) (api.Bag, api.Errno) {
	if !Valid(a) || !Valid(b) {
		return nil, api.ErrInvalid
	}
	var items []api.Item
	for p := range pairs(a, b) {
		items = append(items, api.Item{Row: p.row, N: become(p.a, p.b)})
	}
	return asBag(items)
}

// gathered puts together what has the same valid row, one after the other as it stands, and returns what it comes to, ascending by rows.
func gathered[E any](l []E, rowOf func(E) api.Row, together func(before, next E) E) []E {
	found := make(map[string]E, len(l))
	for _, x := range l {
		text := row.Text(rowOf(x))
		if before, ok := found[text]; ok {
			x = together(before, x)
		}
		found[text] = x
	}
	return slices.SortedFunc(maps.Values(found), func(x, y E) int { return row.Compare(rowOf(x), rowOf(y)) })
}

// gatheredBag returns the bag of items, of which several may have the same row.
func gatheredBag(items []api.Item) (api.Bag, api.Errno) {
	added := func(before, next api.Item) api.Item {
		return api.Item{Row: before.Row, N: before.N + next.N}
	}
	return asBag(gathered(items, rowOfItem, added))
}

// asBag makes a bag of items with valid rows, strictly ascending: without those that come 0 times, and with rows of its own. It keeps the slice, but not the rows.
func asBag(items []api.Item) (api.Bag, api.Errno) {
	items = slices.DeleteFunc(items, func(item api.Item) bool { return item.N == 0 })
	if !Valid(items) {
		return nil, api.ErrLimit
	}
	for i := range items {
		items[i].Row = slices.Clone(items[i].Row)
	}
	return items, api.OK
}

func rowOfItem(item api.Item) api.Row { return item.Row }

func rowOfChange(c api.Change) api.Row { return c.Row }
