package pair

import (
	"slices"
	"testing"

	"tidewright/api"
)

// spareRow returns a row with something behind its end.
func spareRow(s string) api.Row {
	r := append(asRow(s), num(55))
	return r[:len(r)-1]
}

// spareEvents returns events with something behind their end, and behind the ends of their rows.
func spareEvents(s string) []api.Event {
	l := eventsOf(s)
	for i := range l {
		l[i].Row = append(l[i].Row, num(55))[:len(l[i].Row)]
	}
	l = append(l, event("66 66"))
	return l[:len(l)-1]
}

// spareBag returns a bag with something behind its end, and behind the ends of its rows.
func spareBag(s string) api.Bag {
	b := bagOf(s)
	for i := range b {
		b[i].Row = append(b[i].Row, num(55))[:len(b[i].Row)]
	}
	b = append(b, api.Item{Row: asRow("66"), N: 66})
	return b[:len(b)-1]
}

// scribble writes over a row, with what is behind its end.
func scribble(r api.Row) {
	for i := range r[:cap(r)] {
		r[:cap(r)][i] = num(77)
	}
}

// whole writes a row with what is behind its end.
func whole(r api.Row) string { return shownEvents([]api.Event{{Row: r[:cap(r)]}}) }

// wholeEvents writes events with what is behind all ends.
func wholeEvents(l []api.Event) string {
	s := ""
	for _, x := range l[:cap(l)] {
		s += shownEvents([]api.Event{{Time: x.Time}}) + whole(x.Row) + ";"
	}
	return s
}

// wholeBag writes a bag with what is behind all ends.
func wholeBag(b api.Bag) string {
	s := ""
	for _, x := range b[:cap(b)] {
		s += shownEvents([]api.Event{{Time: x.N}}) + whole(x.Row) + ";"
	}
	return s
}

// Promise P9.1: arguments stay, also behind their ends.
func TestArguments(t *testing.T) {
	on, others := append(first(1), 9)[:1], append(first(1), 9)[:1]
	l, r := spareEvents("1 1,1; 0 1,1; 1 1,2; 0 1"), spareEvents("2 1,1; 0 1,3; 2 1,1")
	a, b := spareBag("1 1,1; 2 2,2"), spareBag("1 1,1; 3 3,3")
	left, right := spareRow("1,1"), spareRow("1,2")
	state := func() string {
		return wholeEvents(l) + wholeEvents(r) + wholeBag(a) + wholeBag(b) + whole(left) + whole(right)
	}
	before := state()
	j, v, k := newJoiner(t, on, others, 0, 9), newVersioner(t, on, others, 2), newKeeper(t, 3, on, others, 2, 2)
	for i, call := range []func(){
		func() { Intervals(on, others, 0, 9, l, r) },
		func() { Versions(on, others, 2, l, r) },
		func() { Outer(3, on, others, 2, 2, a, b) },
		func() { SameKey(on, others, left, right) },
		func() { j.Left(api.Change{Row: left, N: 2}) },
		func() { j.Right(api.Change{Row: right, N: 2}) },
		func() { j.Right(api.Change{Row: right, N: -1}) },
		func() { j.Mark(99) },
		func() { v.Left(api.Event{Row: left}) },
		func() { v.Right(api.Event{Row: right}) },
		func() { v.Mark(99) },
		func() { k.Left(api.Change{Row: left, N: 2}) },
		func() { k.Right(api.Change{Row: right, N: 2}) },
		func() { k.Right(api.Change{Row: right, N: -1}) },
		func() { k.Now() },
	} {
		call()
		if state() != before || !slices.Equal(on[:2], []int{0, 9}) || !slices.Equal(others[:2], []int{0, 9}) {
			t.Errorf("call %d changes its arguments", i)
		}
	}
}

// Promise P9.1: arguments are not kept.
func TestNotKept(t *testing.T) {
	on, others := first(1), first(1)
	j, v, k := newJoiner(t, on, others, 0, 9), newVersioner(t, on, others, 2), newKeeper(t, 3, on, others, 2, 2)
	on[0], others[0] = 1, 1
	rows := []api.Row{spareRow("1,3"), spareRow("1,4"), spareRow("1,5"), spareRow("1,6"), spareRow("1,7"), spareRow("1,8")}
	j.Left(api.Change{Row: rows[0], N: 1})
	j.Right(api.Change{Time: 1, Row: rows[1], N: 1})
	v.Left(api.Event{Row: rows[2]})
	v.Right(api.Event{Row: rows[3]})
	k.Left(api.Change{Row: rows[4], N: 1})
	k.Right(api.Change{Row: rows[5], N: 1})
	for _, r := range rows {
		scribble(r)
	}
	runJoiner(t, j, `
		left 1 1 1,1 = 1 1 1,1,1,4
		right 0 1 1,1 = 0 1 1,3,1,1
	`)
	runVersioner(t, v, "mark 1 = 0 1,5,1,6")
	runKeeper(t, k, `
		now = 1 1,7,1,8
		left 0 1 2,7 = 0 1 2,7,~,~
	`)
}

// Promise P9.1: results are new, and share nothing.
func TestNew(t *testing.T) {
	l, r := eventsOf("1 1,1; 1 1,1; 2 1"), eventsOf("1 1,2; 1 1,2; 0 1,3")
	a, b := bagOf("1 1,1; 2 2,2"), bagOf("1 1,1; 1 1,2; 3 3,3")
	ofEvents := func(l []api.Event, _ api.Errno) (rows []api.Row) {
		for _, x := range l {
			rows = append(rows, x.Row)
		}
		return rows
	}
	ofChanges := func(l []api.Change, _ api.Errno) (rows []api.Row) {
		for _, x := range l {
			rows = append(rows, x.Row)
		}
		return rows
	}
	ofBag := func(b api.Bag, _ api.Errno) (rows []api.Row) {
		for _, x := range b {
			rows = append(rows, x.Row)
		}
		return rows
	}
	j, k := newJoiner(t, first(1), first(1), -9, 9), newKeeper(t, 3, first(1), first(1), 2, 2)
	k.Left(change("0 1 1,1"))
	for i, s := range []string{"0 1 1,1", "0 1 1,2", "1 1 1,2", "0 1 2,2"} {
		j.Right(change(s))
		k.Right(api.Change{Row: api.Row{num(1 + i/2), num(i)}, N: 1})
	}
	for i, call := range []func() []api.Row{
		func() []api.Row { return ofEvents(Intervals(first(1), first(1), -9, 9, l, r)) },
		func() []api.Row { return ofEvents(Versions(first(1), first(1), 2, l, r)) },
		func() []api.Row { return ofEvents(Versions(first(1), first(1), 2, l, nil)) },
		func() []api.Row {
			v := newVersioner(t, first(1), first(1), 2)
			v.Left(l[0])
			v.Left(l[0])
			v.Right(r[0])
			return ofEvents(v.Mark(end))
		},
		func() []api.Row { return ofBag(Outer(3, first(1), first(1), 2, 2, a, b)) },
		func() []api.Row { return ofBag(Outer(0, nil, nil, 2, 2, a, b)) },
		func() []api.Row { return ofBag(k.Now()) },
		func() []api.Row { return ofChanges(j.Left(change("0 1 1,5"))) },
		func() []api.Row {
			l := ofChanges(k.Left(change("0 1 1,9")))
			k.Left(change("0 -1 1,9"))
			return l
		},
	} {
		checkNew(t, i, call)
	}
}

// checkNew checks that a call gives the same rows again when those that it gave first are written over, and that no two of them share their memory.
func checkNew(t *testing.T, i int, call func() []api.Row) {
	t.Helper()
	texts := func(rows []api.Row) []string {
		var l []string
		for _, r := range rows {
			l = append(l, whole(slices.Clip(r)))
		}
		return l
	}
	rows := call()
	before := texts(rows)
	for at, r := range rows {
		scribble(r)
		if !slices.Equal(texts(rows[at+1:]), before[at+1:]) {
			t.Errorf("call %d: the row %d shares its memory", i, at)
		}
	}
	if again := texts(call()); len(rows) < 2 || !slices.Equal(again, before) {
		t.Errorf("call %d: %q, then %q", i, before, again)
	}
}
