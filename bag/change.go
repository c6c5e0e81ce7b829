package bag

import (
	"slices"

	"tidewright/api"
)

// Sum adds up how often each row comes in two bags.
func Sum(a, b api.Bag) (api.Bag, api.Errno) {
	return combined(a, b, func(inA, inB int) int { return inA + inB })
}

// Minus takes off how often each row of a comes in b.
func Minus(a, b api.Bag) (api.Bag, api.Errno) {
	return combined(a, b, func(inA, inB int) int { return inA - inB })
}

// Times multiplies how often each row of a bag comes by n.
func Times(b api.Bag, n int) (api.Bag, api.Errno) {
	if !Valid(b) {
		return nil, api.ErrInvalid
	}
	if n < -api.MaxCount || n > api.MaxCount {
		return nil, api.ErrRange
	}
	return combined(b, nil, func(inB, _ int) int { return inB * n })
}

// Apply returns the bag b after changes. They are all added up before a limit counts.
func Apply(b api.Bag, l []api.Change) (api.Bag, api.Errno) {
	if !Valid(b) || !validChanges(l) {
		return nil, api.ErrInvalid
	}
	items := slices.Clone(b)
	for _, c := range l {
		items = append(items, api.Item{Row: c.Row, N: c.N})
	}
	return gatheredBag(items)
}

// Changes returns the changes that make b of a, ascending by rows, all with one time.
func Changes(a, b api.Bag, time int) ([]api.Change, api.Errno) {
	if !Valid(a) || !Valid(b) {
		return nil, api.ErrInvalid
	}
	if !isTime(time) {
		return nil, api.ErrRange
	}
	difference, e := Minus(b, a)
	if e != api.OK {
		return nil, e
	}
	l := make([]api.Change, len(difference))
	for i, item := range difference {
		l[i] = api.Change{Time: time, Row: item.Row, N: item.N}
	}
	return l, api.OK
}

// Netted puts the changes of each row together to one, at the last of their times, ascending by rows; those that come to nothing are left out.
func Netted(l []api.Change) ([]api.Change, api.Errno) {
	if !validChanges(l) {
		return nil, api.ErrInvalid
	}
	added := func(before, next api.Change) api.Change {
		return api.Change{Time: max(before.Time, next.Time), Row: before.Row, N: before.N + next.N}
	}
	netted := slices.DeleteFunc(gathered(l, rowOfChange, added), func(c api.Change) bool { return c.N == 0 })
	if !validChanges(netted) {
		return nil, api.ErrLimit
	}
	for i := range netted {
		netted[i].Row = slices.Clone(netted[i].Row)
	}
	return netted, api.OK
}
