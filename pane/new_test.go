package pane

import (
	"slices"
	"testing"

	"tidewright/api"
)

// spare returns a row with a value behind its end.
func spare(r api.Row) api.Row {
	r = append(slices.Clone(r), num(55))
	return r[:len(r)-1]
}

// scribble writes over a row, with what is behind its end.
func scribble(r api.Row) {
	r = r[:cap(r)]
	for i := range r {
		r[i] = num(900 + i)
	}
}

// scribblePanes writes over panes and their rows, with what is behind their ends. It tells whether two of the rows shared memory.
func scribblePanes(l []api.Pane) (shared bool) {
	for i := range l {
		l[i].Row = l[i].Row[:cap(l[i].Row)]
		for j := range l[i].Row {
			l[i].Row[j] = num(1000*i + j)
		}
	}
	for i := range l {
		for j, v := range l[i].Row {
			shared = shared || v != num(1000*i+j)
		}
	}
	clear(l[:cap(l)])
	return shared
}

// Promise P7.1: arguments stay as they are, also behind their ends, and are not kept.
func TestArguments(t *testing.T) {
	s := counted(tumbling(10), api.MRetract, 10, 2)
	s.Aggs = append(s.Aggs, api.Agg{Kind: 99})[:2]
	r := spare(asRow("1"))
	events := append(at("5 1\n3 2"), api.Event{Time: 7, Row: asRow("7")})[:2]
	events[0].Row = spare(events[0].Row)
	panes := append([]api.Pane{given(10, 2, 0, false, "1"), given(0, 2, 0, false, "2"), given(0, 2, 0, true, "2"), given(0, 3, 1, false, "3")}, given(30, 2, 2, true, "9"))[:4]
	panes[0].Row = spare(panes[0].Row)
	check := func(what string) {
		t.Helper()
		if !slices.Equal(s.Aggs[:3], []api.Agg{{Kind: api.ACount}, {Kind: api.ASum}, {Kind: 99}}) || !slices.Equal(r[:2], asRow("1,55")) {
			t.Errorf("%s: %v, %v", what, s.Aggs[:3], r[:2])
		}
		if events[0].Time != 5 || !slices.Equal(events[0].Row[:2], asRow("1,55")) || events[1].Time != 3 || events[:3][2].Time != 7 {
			t.Errorf("%s: %v", what, events[:3])
		}
		if shown(panes[:5]) != "on 0 [10 20) 1; on 0 [0 10) 2; -on 0 [0 10) 2; late 1 [0 10) 3; -on 2 [30 40) 9" || !slices.Equal(panes[0].Row[:2], asRow("1,55")) {
			t.Errorf("%s: %v", what, panes[:5])
		}
	}
	ValidSetup(s)
	p := begin(t, s)
	p.Add(5, r, 1)
	p.Add(8, r, 1)
	p.Add(8, r, -1)
	p.Mark(10)
	p.Add(9, r, 1)
	p.Restore(p.Text())
	Batch(s, events)
	Final(panes)
	ComparePanes(panes[0], panes[1])
	check("behind all calls")
	text := p.Text()
	clear(s.Aggs[:3])
	scribble(r)
	if p.Text() != text {
		t.Errorf("behind changed arguments: %q, not %q", p.Text(), text)
	}
	if l, e := p.Add(9, asRow("4"), 1); shown(l) != "-late 2 [0 10) 2,2; late 3 [0 10) 3,6" || e != api.OK {
		t.Errorf("behind changed arguments: %q, %d", shown(l), e)
	}
}

// Promise P7.1: results are new, each time, and share nothing.
func TestNew(t *testing.T) {
	for _, spec := range []api.Spec{tumbling(10), sliding(10, 5), session(5), global()} {
		for _, mode := range modes() {
			p, q := begin(t, counted(spec, mode, 20, 2)), begin(t, counted(spec, mode, 20, 2))
			for i := range 60 {
				r := api.Row{num(i % 3)}
				a, e := p.Add(i*7%30, r, 1)
				b, f := q.Add(i*7%30, r, 1)
				m, _ := p.Mark(i - 20)
				n, _ := q.Mark(i - 20)
				if shown(a) != shown(b) || e != f || shown(m) != shown(n) || p.Text() != q.Text() {
					t.Fatalf("%v: %q and %q, not %q and %q", spec, shown(a), shown(m), shown(b), shown(n))
				}
				if scribblePanes(a) || scribblePanes(m) {
					t.Fatalf("%v: rows of panes share memory", spec)
				}
				for _, w := range p.Windows() {
					contents, _ := p.Contents(w)
					given, _ := p.Given(w)
					for k := range contents {
						scribble(contents[k].Row)
						contents[k].N = 77
					}
					scribble(given)
				}
				clear(p.Windows())
			}
		}
	}
	events := at("5 1\n13 2\n5 3")
	for range 2 {
		l, _ := Batch(counted(sliding(10, 5), api.MRetract, 0, 0), events)
		if shown(l) != "on 0 [0 10) 2,4; on 0 [5 15) 3,6; on 0 [10 20) 1,2" || scribblePanes(l) {
			t.Errorf("Batch = %q", shown(l))
		}
	}
	panes := []api.Pane{given(0, 2, 0, false, "1"), given(10, 2, 0, false, "2")}
	panes[1].Row = panes[0].Row // as an argument may have it
	for range 2 {
		l, _ := Final(panes)
		if shown(l) != "on 0 [0 10) 1; on 0 [10 20) 1" || scribblePanes(l) {
			t.Errorf("Final = %q", shown(l))
		}
	}
}
