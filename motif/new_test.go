package motif

import (
	"slices"
	"testing"

	"tidewright/api"
	"tidewright/row"
)

// spare returns a row with a value behind its end.
func spare(r api.Row) api.Row {
	r = append(slices.Clone(r), num(55))
	return r[:len(r)-1]
}

// Promise P8.1: arguments stay as they are, also behind their ends, and are not kept.
func TestArguments(t *testing.T) {
	s := append(narrow(), api.Column{Name: "z", Kind: 9})[:1]
	p := pattern("within 10 skip 0 / next a {v > 5} / any b {v > a.v} unless {v < 0}")
	p.Stages = append(p.Stages, api.Stage{Name: "z"})[:2]
	l := append(events("3 9; 0 6; 2 8; 1 3"), event("7 7"))[:4]
	for i := range l {
		l[i].Row = spare(l[i].Row)
	}
	at := []int{1, 2, 77}[:2]
	check := func(what string) {
		t.Helper()
		if !slices.Equal(s[:2], api.Schema{{Name: "v", Kind: api.VInt}, {Name: "z", Kind: 9}}) || !slices.Equal(at[:3], []int{1, 2, 77}) {
			t.Errorf("%s: %v, %v", what, s[:2], at[:3])
		}
		if Format(p) != "within 10 skip 0\nnext a {v > 5}\nany b {v > a.v} unless {v < 0}\n" || p.Stages[:3][2] != (api.Stage{Name: "z"}) {
			t.Errorf("%s: %v", what, p.Stages[:3])
		}
		for i, want := range events("3 9; 0 6; 2 8; 1 3") {
			if l[i].Time != want.Time || row.Compare(l[i].Row, want.Row) != 0 || l[i].Row[:2][1] != num(55) {
				t.Errorf("%s: the event %v", what, l[i])
			}
		}
		if l[:5][4].Time != 7 {
			t.Errorf("%s: behind the events %v", what, l[:5][4])
		}
	}
	Valid(s, p)
	Order(s, l)
	Matches(s, p, l)
	Rows(s, p, l)
	Result(s, p)
	if !IsMatch(s, p, l, at) {
		t.Error("no match")
	}
	k := begin(t, s, p)
	for _, x := range l {
		k.Add(x)
	}
	k.Mark(2)
	begin(t, s, p).Restore(k.Text())
	check("behind all calls")
	text := k.Text()
	clear(s[:2])
	clear(p.Stages[:3])
	for _, x := range l {
		clear(x.Row[:2])
	}
	if k.Text() != text {
		t.Errorf("behind changed arguments: %q, not %q", k.Text(), text)
	}
	run(t, k, "mark 4 = 0 6, 2 8; 0 6, 3 9; 2 8, 3 9")
}

// Promise P8.1: results are new memory, and no two of them share it.
func TestNewMemory(t *testing.T) {
	p := pattern("within 10 skip 0 / next a {1} / any b {1}")
	l := events("0 1; 1 2; 2 3")
	for range 2 {
		found, _ := Matches(narrow(), p, l)
		for i, want := range []string{"0 1", "0 2", "1 2"} {
			if indexes(found[i:i+1]) != want {
				t.Errorf("the match %d: %v", i, found[i])
			}
			for j := range found[i][:cap(found[i])] {
				found[i][:cap(found[i])][j] = 99
			}
		}
		order, _ := Order(narrow(), l)
		if !slices.Equal(order, []int{0, 1, 2}) {
			t.Errorf("Order: %v", order)
		}
		clear(order[:cap(order)])
		rows, _ := Rows(narrow(), p, l)
		for i, want := range []string{"1,2", "1,3", "2,3"} {
			if row.Text(rows[i]) != want {
				t.Errorf("the row %d: %v", i, rows[i])
			}
			clear(rows[i][:cap(rows[i])])
		}
		s, _ := Result(narrow(), p)
		if row.Format(s) != "a_v int, b_v int" {
			t.Errorf("Result: %v", s)
		}
		clear(s[:cap(s)])
		q, _ := Parse(Format(p))
		if Format(q) != Format(p) {
			t.Errorf("Parse: %v", q)
		}
		clear(q.Stages[:cap(q.Stages)])
	}
}

// Promise P8.1: what a seeker tells is new memory, also where it tells an event more than once, and goes on holding it.
func TestTellsNew(t *testing.T) {
	k := begin(t, narrow(), pattern("within 10 skip 0 / next a {1} / any b {1}"))
	for _, x := range events("0 1; 1 2; 2 3") {
		k.Add(x)
	}
	l, _ := k.Mark(3)
	if shown(l) != "0 1, 1 2; 0 1, 2 3; 1 2, 2 3" {
		t.Fatalf("%q", shown(l))
	}
	text := k.Text()
	for i, match := range l {
		for j, x := range match {
			for n := range x.Row[:cap(x.Row)] {
				x.Row[:cap(x.Row)][n] = num(10*i + j)
			}
		}
	}
	if shown(l) != "0 0, 1 1; 0 10, 2 11; 1 20, 2 21" || k.Text() != text {
		t.Errorf("%q, %q", shown(l), k.Text())
	}
	for _, match := range l {
		clear(match[:cap(match)])
	}
	clear(l[:cap(l)])
	run(t, k, `
		add 3 4 =
		mark 4 = 0 1, 3 4; 1 2, 3 4; 2 3, 3 4
	`)
}

// Promise P8.1: an iterator of matches ends where it is left.
func TestLeft(t *testing.T) {
	f := newFinder(narrow(), pattern("within 10 skip 0 / next a {1} / any b {1} / any c {1}"), counted(1, 2, 3, 4))
	for range 2 {
		for match := range f.matches() {
			if !slices.Equal(match, []int{0, 1, 2}) {
				t.Errorf("the first one is %v", match)
			}
			break
		}
	}
	for at := range f.next([]int{0}) {
		if at != 1 {
			t.Errorf("the first place is %d", at)
		}
		break
	}
}
