package fold

import (
	"slices"
	"testing"

	"tidewright/api"
	"tidewright/bag"
	"tidewright/row"
)

// deep returns a copy that shares nothing.
func deep(b api.Bag) api.Bag {
	c := slices.Clone(b)
	for i := range c {
		c[i].Row = slices.Clone(c[i].Row)
	}
	return c
}

// spare returns a bag with something behind its end, and behind the ends of its rows.
func spare(b api.Bag) api.Bag {
	b = deep(b)
	for i := range b {
		r := append(b[i].Row, num(55))
		b[i].Row = r[:len(r)-1]
	}
	b = append(b, api.Item{Row: asRow("66"), N: 66})
	return b[:len(b)-1]
}

// scribble writes over all of a bag, with what is behind its end and those of its rows.
func scribble(b api.Bag) {
	b = b[:cap(b)]
	for i := range b {
		r := b[i].Row[:cap(b[i].Row)]
		for j := range r {
			r[j] = num(1000*i + j)
		}
		b[i].N = 77
	}
}

// Promise P5.1: arguments stay, also behind their ends, and are not kept.
func TestArguments(t *testing.T) {
	b, c := spare(of("2 ~,1; 1 2,2; 3 3,3")), spare(of("1 0,0; -1 2,2; 1 2,3"))
	l, parts := append(every(1), api.Agg{Kind: 99})[:7], []api.Bag{b, c, of("7 7,7")}[:2]
	schema, _ := row.ParseSchema("a int, b int, c text")
	beforeB, beforeC, beforeL := deep(b[:cap(b)]), deep(c[:cap(c)]), slices.Clone(l[:cap(l)])
	same := func(what string) {
		t.Helper()
		if !bag.Same(b[:cap(b)], beforeB) || !bag.Same(c[:cap(c)], beforeC) || !slices.Equal(l[:cap(l)], beforeL) || !bag.Same(parts[:3][2], of("7 7,7")) {
			t.Fatalf("%s: arguments are changed", what)
		}
	}
	ValidAgg(l[0], 2)
	Valid(l, 2)
	Of(l, 2, b)
	Two(l, 2, parts)
	Kinds(schema[:2], l)
	same("functions")
	a := begin(t, l, 2, b)
	a.Add(c[0].Row, 1)
	a.Add(b[1].Row, -1)
	a.Merge(begin(t, l, 2, c))
	a.Result()
	added := begin(t, l, 2, b)
	same("methods")
	kept := of("2 ~,1; 2 0,0; -1 2,2; 1 2,3; 3 3,3")
	rows := deep(b)
	scribble(b)
	scribble(c)
	for i := range l {
		l[i] = api.Agg{Kind: api.ACount}
	}
	checkAcc(t, "behind changed arguments of Add", added, rows)
	checkAcc(t, "behind changed arguments of Merge", a, kept)
	if r, e := a.Result(); e != api.ErrState || len(r) != 0 {
		t.Errorf("Result = %v, %d", r, e)
	}
	a.Add(asRow("2,2"), 1)
	a.Add(asRow("9,9"), 1)
	if e := a.Merge(begin(t, every(1), 2, nil)); e != api.OK {
		t.Errorf("Merge with the list as it was = %d", e)
	}
	r, e := a.Result()
	checkRow(t, "Result", r, e, "9,9,23,0,9,2,4", api.OK)
}

// Promise P5.1: results are new, each time.
func TestNew(t *testing.T) {
	rows := of("2 1,1; 3 2,2; 1 3,~")
	a := begin(t, every(1), 2, rows)
	first := a.Bag()
	scribble(first)
	for i := range first {
		if len(first[i].Row) != 2 || first[i].Row[0] != num(1000*i) || first[i].Row[1] != num(1000*i+1) {
			t.Error("rows of a bag share their memory")
		}
	}
	checkAcc(t, "behind a changed Bag", a, rows)
	for _, tell := range []func() api.Row{
		func() api.Row { r, _ := a.Result(); return r },
		func() api.Row { r, _ := Of(every(1), 2, rows); return r },
		func() api.Row { r, _ := Two(every(1), 2, []api.Bag{rows, nil}); return r },
	} {
		r := tell()
		for i := range r[:cap(r)] {
			r[:cap(r)][i] = text("x")
		}
		checkRow(t, "told again", tell(), api.OK, "6,5,8,1,2,1,2", api.OK)
	}
	schema, _ := row.ParseSchema("a text, b int")
	kinds, _ := Kinds(schema, every(1))
	clear(kinds[:cap(kinds)])
	if again, _ := Kinds(schema, every(1)); !slices.Equal(again, slices.Repeat([]int{api.VInt}, 7)) {
		t.Errorf("Kinds, then %v", again)
	}
	b := begin(t, every(1), 2, nil)
	b.Merge(a)
	scribble(b.Bag())
	b.Add(asRow("1,1"), -2)
	b.Add(asRow("0,0"), 1)
	checkAcc(t, "behind a Merge into another one", a, rows)
}
