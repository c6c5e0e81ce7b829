package bag

import (
	"slices"
	"testing"

	"tidewright/api"
)

// Promise P3.1: results are new, share nothing, and arguments stay, also behind their ends.
func TestNew(t *testing.T) {
	a, b, l, cols, rows := spare(of("2 1,1; -1 2,2; 3 3,3")), spare(of("1 1,1; 1 2,3")), spareChanges(changes("1 1,1; 1 4,4; 2 4,4")), []int{0, 1, 9}[:2], []api.Row{asRow("2"), asRow("1"), asRow("2")}
	whole := spare(of("2 1,1; 3 2,2"))
	copies := []api.Bag{deep(a[:cap(a)]), deep(b[:cap(b)]), deep(whole[:cap(whole)]), deep(bagOf(l[:cap(l)]))}
	calls := []func() api.Bag{
		func() api.Bag { c, _ := Sum(a, b); return c },
		func() api.Bag { c, _ := Sum(a, nil); return c },
		func() api.Bag { c, _ := Minus(a, b); return c },
		func() api.Bag { c, _ := Minus(a, nil); return c },
		func() api.Bag { c, _ := Times(a, 1); return c },
		func() api.Bag { c, _ := Apply(a, l); return c },
		func() api.Bag { c, _ := Apply(a, nil); return c },
		func() api.Bag { c, _ := Apply(nil, l); return c },
		func() api.Bag { c, _ := Distinct(a); return c },
		func() api.Bag { c, _ := Meet(a, a); return c },
		func() api.Bag { c, _ := Join(a, b); return c },
		func() api.Bag { c, _ := Project(a, cols); return c },
		func() api.Bag { c, _ := Upserts(a, l, cols[:1]); return c },
		func() api.Bag { c, _ := Upserts(a, nil, cols); return c },
		func() api.Bag { c, _ := Of(rows); return c },
		func() api.Bag { c, _, _ := Parse("2 1,1\n3 2,2\n"); return c },
		func() api.Bag { c, _ := Changes(a, b, 0); return bagOf(c) },
		func() api.Bag { c, _ := Netted(l); return bagOf(c) },
		func() api.Bag {
			c, _ := Rows(whole)
			var rows api.Bag
			for _, r := range c {
				rows = append(rows, api.Item{Row: r, N: 1})
			}
			return rows
		},
	}
	for i, call := range calls {
		got := call()
		want := deep(got)
		for j := range got {
			for k := range got[j].Row[:cap(got[j].Row)] {
				got[j].Row[:cap(got[j].Row)][k] = num(1000*j + k)
			}
		}
		for j := range got {
			for k := range got[j].Row {
				if got[j].Row[k] != num(1000*j+k) {
					t.Errorf("call %d: two rows share their memory", i)
				}
			}
			got[j].N = 77
		}
		if again := call(); len(again) == 0 || !Same(again, want) {
			t.Errorf("call %d: %v, then %v", i, want, again)
		}
		now := []api.Bag{a[:cap(a)], b[:cap(b)], whole[:cap(whole)], bagOf(l[:cap(l)])}
		if !slices.EqualFunc(now, copies, Same) || !slices.Equal(cols[:3], []int{0, 1, 9}) || rows[0][0] != num(2) || rows[1][0] != num(1) {
			t.Fatalf("call %d: the arguments are now %v, %v, %v", i, now, cols[:3], rows)
		}
	}
}

// deep returns a copy that shares nothing.
func deep(b api.Bag) api.Bag {
	c := slices.Clone(b)
	for i := range c {
		c[i].Row = slices.Clone(c[i].Row)
	}
	return c
}

// spare returns a bag with something behind its end, and behind the ends of its rows.
func spare(b api.Bag) api.Bag {
	for i := range b {
		r := append(slices.Clone(b[i].Row), num(55))
		b[i].Row = r[:len(r)-1]
	}
	b = append(b, api.Item{Row: asRow("66"), N: 66})
	return b[: len(b)-1 : len(b)]
}

func spareChanges(l []api.Change) []api.Change {
	l = append(l, api.Change{Row: asRow("66"), N: 66})
	return l[: len(l)-1 : len(l)]
}
