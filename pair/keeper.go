package pair

import (
	"tidewright/api"
	"tidewright/bag"
)

// Keeper does the outer join while changes come.
type Keeper struct {
	kind        int
	left, right *table
	rows        int // different ones of the joined bag
}

// NewKeeper returns a keeper that was told nothing.
func NewKeeper(kind int, on, others []int, wide, width int) (*Keeper, api.Errno) {
	switch {
	case !areKeys(on, others) || !haveRoom(wide, width):
		return nil, api.ErrSize
	case !within(kind, 0, 3) || !areColumns(on, wide) || !areColumns(others, width) || !isWidth(wide) || !isWidth(width):
		return nil, api.ErrRange
	}
	k := &Keeper{kind: kind}
	k.left, k.right = newTables(on, others, 0, 0)
	k.left.width, k.right.width = wide, width
	return k, api.OK
}

// Left tells a change of the left bag, and returns those of the joined bag, ascending by rows.
func (k *Keeper) Left(c api.Change) ([]api.Change, api.Errno) {
	if !k.made() {
		return nil, api.ErrInvalid
	}
	return k.tell(c, k.left)
}

// Right tells a change of the right bag, and returns those of the joined bag, ascending by rows.
func (k *Keeper) Right(c api.Change) ([]api.Change, api.Errno) {
	if !k.made() {
		return nil, api.ErrInvalid
	}
	return k.tell(c, k.right)
}

// Now returns the joined bag.
func (k *Keeper) Now() (api.Bag, api.Errno) {
	if !k.made() {
		return nil, api.ErrInvalid
	}
	return outer(k.kind, k.left, k.right)
}

// made reports whether k is a keeper that NewKeeper made.
func (k *Keeper) made() bool {
	return k != nil && k.left != nil
}

// tell tells a change of the bag of one of both sides. All that may be wrong is asked before it goes in.
func (k *Keeper) tell(c api.Change, own *table) ([]api.Change, api.Errno) {
	switch {
	case !bag.ValidChange(c):
		return nil, api.ErrInvalid
	case len(c.Row) != own.width:
		return nil, api.ErrSize
	}
	item := timeless(c.Row, c.N)
	before := own.count(item)
	switch {
	case before+c.N < 0:
		return nil, api.ErrState
	case !isCount(before+c.N) || before == 0 && own.size() == api.MaxRows:
		return nil, api.ErrLimit
	}
	was, is, e := k.parts(item, own)
	if e != api.OK {
		return nil, e
	}
	rows := k.rows - len(was) + len(is)
	l, e := bag.Changes(was, is, c.Time)
	if e != api.OK || rows > api.MaxRows {
		return nil, api.ErrLimit
	}
	own.put(item)
	k.rows = rows
	return l, api.OK
}

// parts returns what is joined of the key of a change, before it and behind it. No row that is joined of another key is among them, so that the numbers of rows of all keys add up.
func (k *Keeper) parts(item api.Change, own *table) (was, is api.Bag, e api.Errno) {
	key, _ := own.key(item.Row)
	left, right := k.left.only(key), k.right.only(key)
	was, _ = outer(k.kind, left, right)
	if own.turned {
		right.put(item)
	} else {
		left.put(item)
	}
	is, e = outer(k.kind, left, right)
	return was, is, e
}
