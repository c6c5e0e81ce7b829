package pane

import (
	"math"
	"strings"
	"testing"

	"tidewright/api"
)

// Promise 7.1: the chapter's example.
func TestExample(t *testing.T) {
	p := run(t, counted(tumbling(10), api.MRetract, 10, 0), `
		add 3 1 1 =
		add 5 2 1 =
		mark 10 = on 0 [0 10) 2,3
		add 7 4 1 = -on 0 [0 10) 2,3; late 1 [0 10) 3,7
		mark 19 =
		add 8 1 1 = -late 1 [0 10) 3,7; late 2 [0 10) 4,8
		mark 20 =
		add 8 5 1 = ErrLate
	`)
	if p.Now() != 20 || len(p.Windows()) > 0 {
		t.Errorf("at %d: %v", p.Now(), p.Windows())
	}
}

// Promises 7.1 and 7.2: the three modes, of the same rows.
func TestModes(t *testing.T) {
	for mode, want := range map[int]string{
		api.MAccumulate: `
			add 1 5 1 =
			add 2 5 1 = early 0 [0 10) 2,10
			add 3 6 1 =
			mark 10 = on 1 [0 10) 3,16
			add 4 7 1 = late 2 [0 10) 4,23
			add 4 7 -1 = late 3 [0 10) 3,16
			add 5 8 2 = late 4 [0 10) 5,32`,
		api.MDiscard: `
			add 1 5 1 =
			add 2 5 1 = early 0 [0 10) 2,10
			add 3 6 1 =
			mark 10 = on 1 [0 10) 1,6
			add 4 7 1 = late 2 [0 10) 1,7
			add 4 7 -1 = ErrState
			add 5 8 2 = late 3 [0 10) 2,16`,
		api.MRetract: `
			add 1 5 1 =
			add 2 5 1 = early 0 [0 10) 2,10
			add 3 6 1 =
			mark 10 = -early 0 [0 10) 2,10; on 1 [0 10) 3,16
			add 4 7 1 = -on 1 [0 10) 3,16; late 2 [0 10) 4,23
			add 4 7 -1 = -late 2 [0 10) 4,23; late 3 [0 10) 3,16
			add 5 8 2 = -late 3 [0 10) 3,16; late 4 [0 10) 5,32`,
	} {
		p := run(t, counted(tumbling(10), mode, 5, 2), want)
		if mode == api.MDiscard {
			holds(t, p, "[0 10) 2,16:")
		} else {
			holds(t, p, "[0 10) 5,32: 2 5, 1 6, 2 8")
		}
	}
}

// Promises 7.1 and 7.2: a window without rows gives nothing, but takes back; it stays until it is gone.
func TestEmptied(t *testing.T) {
	p := run(t, counted(tumbling(10), api.MRetract, 5, 1), `
		add 1 5 1 = early 0 [0 10) 1,5
		add 1 5 -1 = -early 0 [0 10) 1,5
		mark 10 =
	`)
	holds(t, p, "[0 10) -:")
	p = run(t, counted(tumbling(10), api.MRetract, 5, 2), `
		add 1 5 2 = early 0 [0 10) 2,10
		add 1 5 -1 =
		mark 9 =
		add 1 5 -1 = -early 0 [0 10) 2,10
		add 1 6 2 = early 1 [0 10) 2,12
		add 1 6 -2 =
		mark 10 = -early 1 [0 10) 2,12
		add 1 6 -1 = ErrState
		add 1 7 1 = late 2 [0 10) 1,7
		add 1 7 -1 = -late 2 [0 10) 1,7
		mark 14 =
	`)
	holds(t, p, "[0 10) -:")
	// Nothing is taken back in the other modes: what was given last stays.
	p = run(t, counted(tumbling(10), api.MAccumulate, 5, 2), `
		add 1 5 2 = early 0 [0 10) 2,10
		add 1 5 -2 =
		mark 10 =
		add 2 5 -1 = ErrState
	`)
	holds(t, p, "[0 10) 2,10:")
	p = run(t, counted(tumbling(10), api.MDiscard, 5, 0), `
		add 1 5 2 =
		add 1 5 -2 =
		add 11 1 1 =
		mark 10 =
	`)
	holds(t, p, "[0 10) -:\n[10 20) -: 1 1")
}

// Promise 7.1: early panes.
func TestEarly(t *testing.T) {
	// A count of k is k rows had, and one below 0 is one; more than it takes are no more.
	run(t, counted(tumbling(10), api.MAccumulate, 0, 3), `
		add 1 1 2 =
		add 1 2 1 = early 0 [0 10) 3,4
		add 1 1 7 = early 1 [0 10) 10,11
		add 1 1 -9 =
		add 1 2 1 =
		add 1 2 -2 =
		add 1 4 1 = early 2 [0 10) 1,4
		add 1 4 2 =
		add 1 4 1 = early 3 [0 10) 4,16
	`)
	// Of no rows nothing is given, so those had go on.
	run(t, counted(tumbling(10), api.MAccumulate, 0, 3), `
		add 1 1 1 =
		add 1 1 -1 =
		add 1 2 1 = early 0 [0 10) 1,2
		add 1 2 -1 =
		add 1 2 1 =
		add 1 2 -1 =
		add 1 3 1 = early 1 [0 10) 1,3
		add 1 3 1 =
	`)
	// Giving back does not begin anew what is had: three rows have come since the pane that was given.
	run(t, counted(tumbling(10), api.MRetract, 0, 2), `
		add 1 1 2 = early 0 [0 10) 2,2
		add 1 1 -1 =
		add 1 1 -1 = -early 0 [0 10) 2,2
		add 1 1 1 = early 1 [0 10) 1,1
		add 1 1 1 =
	`)
	// Each window has its own; one that has ended gives late panes alone, and none counts as had behind it.
	run(t, counted(sliding(10, 5), api.MDiscard, 5, 2), `
		add 3 1 1 =
		add 7 2 1 = early 0 [0 10) 2,3
		mark 10 = on 0 [-5 5) 1,1
		add 8 4 1 = late 1 [0 10) 1,4; early 0 [5 15) 2,6
		add 8 5 1 = late 2 [0 10) 1,5
	`)
	run(t, counted(global(), api.MRetract, 0, 1), `
		add 3 1 1 = early 0 [-1000000000000 1000000000001) 1,1
		mark 1000000000000 =
		add -7 1 1 = -early 0 [-1000000000000 1000000000001) 1,1; early 1 [-1000000000000 1000000000001) 2,2
		mark 1000000000001 = -early 1 [-1000000000000 1000000000001) 2,2; on 2 [-1000000000000 1000000000001) 2,2
		add 3 1 1 = ErrLate
	`)
}

// Promise 7.1: a row may be late for some of its windows alone.
func TestLate(t *testing.T) {
	p := run(t, counted(sliding(10, 5), api.MRetract, 2, 0), `
		add 7 1 1 =
		mark 11 = on 0 [0 10) 1,1
		add 8 2 1 = -on 0 [0 10) 1,1; late 1 [0 10) 2,3
		mark 12 =
		add 9 4 1 =
		add 4 1 1 = ErrLate
		add 4 1 -1 = ErrLate
		add 9 4 -2 = ErrState
		mark 16 = on 0 [5 15) 3,7
		add 9 1 1 = -on 0 [5 15) 3,7; late 1 [5 15) 4,8
	`)
	holds(t, p, "[5 15) 4,8: 2 1, 1 2, 1 4")
	// A window that begins behind its end, but is not gone.
	run(t, counted(tumbling(10), api.MDiscard, 1, 0), `
		mark 10 =
		add 9 1 1 = late 0 [0 10) 1,1
		add 9 2 -1 = ErrState
		mark 11 =
		add 9 1 1 = ErrLate
		add 10 1 1 =
	`)
	run(t, counted(tumbling(10), api.MDiscard, 0, 0), `
		mark 9 =
		add 0 1 1 =
		mark 10 = on 0 [0 10) 1,1
		add 0 1 1 = ErrLate
	`)
}

// Promise 7.1: a count below 0 is asked for each window before anything changes.
func TestTakenOut(t *testing.T) {
	p := run(t, counted(sliding(10, 5), api.MRetract, 0, 0), `
		add 2 1 1 =
		add 7 1 2 =
		add 2 1 -1 =
		add 12 1 -1 = ErrState
		add 2 1 -1 = ErrState
		add 7 1 -1 =
		add 7 1 -2 = ErrState
		add 7 2 -1 = ErrState
		add 30 1 -1 = ErrState
	`)
	holds(t, p, "[-5 5) -:\n[0 10) -: 1 1\n[5 15) -: 1 1")
}

// Promise 7.1: errors in their order.
func TestAddErrors(t *testing.T) {
	p := run(t, counted(tumbling(10), api.MRetract, 0, 0), `
		add 25 1 1 =
		mark 20 =
	`)
	text := p.Text()
	long := api.Row{{Kind: api.VText, S: strings.Repeat("x", 201)}}
	for _, r := range []api.Row{nil, asRow("1,2"), {{Kind: 3}}, {{Kind: api.VInt, S: "x"}}, {num(api.MaxInt + 1)}, long} {
		for _, at := range []int{25, 5, maxTime + 1} {
			for _, n := range []int{1, -9, 0} {
				if l, e := p.Add(at, r, n); len(l) > 0 || e != api.ErrInvalid {
					t.Errorf("Add(%d, %v, %d) = %v, %d", at, r, n, l, e)
				}
			}
		}
	}
	for _, x := range []struct{ time, n int }{
		{25, 0}, {25, api.MaxCount + 1}, {25, -api.MaxCount - 1}, {25, math.MinInt}, {25, math.MaxInt}, {5, 0},
		{maxTime + 1, 1}, {-maxTime - 1, 1}, {math.MinInt, 1}, {math.MaxInt, -1},
	} {
		if l, e := p.Add(x.time, asRow("1"), x.n); len(l) > 0 || e != api.ErrRange {
			t.Errorf("Add(%d, 1, %d) = %v, %d", x.time, x.n, l, e)
		}
	}
	for _, m := range []int{19, -maxTime, maxTime + 2, -maxTime - 1, math.MinInt, math.MaxInt} {
		if l, e := p.Mark(m); len(l) > 0 || e != api.ErrRange {
			t.Errorf("Mark(%d) = %v, %d", m, l, e)
		}
	}
	if p.Text() != text {
		t.Errorf("%q is now %q", text, p.Text())
	}
}

// Promise 7.1: contents that are no valid bag.
func TestLimitOfContents(t *testing.T) {
	for _, spec := range []api.Spec{tumbling(10), sliding(10, 5), session(10), global()} {
		p := begin(t, counted(spec, api.MRetract, 0, 0))
		for n := range api.MaxRows {
			if l, e := p.Add(5, api.Row{num(n)}, 1); len(l) > 0 || e != api.OK {
				t.Fatalf("row %d: %v, %d", n, l, e)
			}
		}
		text := p.Text()
		if l, e := p.Add(5, asRow("400"), 1); len(l) > 0 || e != api.ErrLimit || p.Text() != text {
			t.Errorf("the row 400: %v, %d", l, e)
		}
		if _, e := p.Add(5, asRow("400"), -1); e != api.ErrState {
			t.Errorf("the row 400 below 0: %d", e)
		}
		if _, e := p.Add(5, asRow("7"), api.MaxCount-1); e != api.OK {
			t.Errorf("one so many times: %d", e)
		}
		text = p.Text()
		if l, e := p.Add(5, asRow("7"), 1); len(l) > 0 || e != api.ErrLimit || p.Text() != text {
			t.Errorf("one too many times: %v, %d", l, e)
		}
	}
	// A row that one window has no place for goes into none; and also one that would be given and discarded at once.
	p := begin(t, counted(sliding(10, 5), api.MDiscard, 5, 0))
	for n := range api.MaxRows {
		p.Add(12, api.Row{num(n)}, 1)
	}
	text := p.Text()
	if l, e := p.Add(7, asRow("400"), 1); len(l) > 0 || e != api.ErrLimit || p.Text() != text {
		t.Errorf("a row that two windows share: %v, %d", l, e)
	}
	if l, e := p.Add(4, asRow("400"), 1); len(l) > 0 || e != api.OK {
		t.Errorf("a row before: %v, %d", l, e)
	}
}

// Promise 7.1: more than MaxRows windows.
func TestLimitOfWindows(t *testing.T) {
	p := begin(t, counted(tumbling(10), api.MRetract, 0, 0))
	for n := range api.MaxRows {
		if _, e := p.Add(10*n, asRow("1"), 1); e != api.OK {
			t.Fatalf("window %d: %d", n, e)
		}
	}
	text := p.Text()
	if l, e := p.Add(4000, asRow("1"), 1); len(l) > 0 || e != api.ErrLimit || p.Text() != text {
		t.Errorf("a window too many: %v, %d", l, e)
	}
	if _, e := p.Add(4000, asRow("1"), -1); e != api.ErrState {
		t.Errorf("a window too many, below 0: %d", e)
	}
	if _, e := p.Add(9, asRow("1"), 1); e != api.OK {
		t.Errorf("a window that is there: %d", e)
	}
	if l, e := p.Mark(10); shown(l) != "on 0 [0 10) 2,2" || e != api.OK {
		t.Errorf("Mark = %q, %d", shown(l), e)
	}
	if _, e := p.Add(4000, asRow("1"), 1); e != api.OK || len(p.Windows()) != api.MaxRows {
		t.Errorf("a window in place of another: %d", e)
	}
	if _, e := p.Add(5, asRow("1"), 1); e != api.ErrLate {
		t.Errorf("a late row: %d", e)
	}
	// Two windows at once, where there is place for one.
	p = begin(t, counted(sliding(10, 5), api.MRetract, 0, 0))
	for n := range api.MaxRows/2 - 1 {
		p.Add(100*n, asRow("1"), 1)
	}
	p.Add(5, asRow("1"), 1)
	text = p.Text()
	if l, e := p.Add(50000, asRow("1"), 1); len(p.Windows()) != api.MaxRows-1 || len(l) > 0 || e != api.ErrLimit || p.Text() != text {
		t.Errorf("two windows: %d and %v, %d", len(p.Windows()), l, e)
	}
	if _, e := p.Add(105, asRow("1"), 1); len(p.Windows()) != api.MaxRows || e != api.OK {
		t.Errorf("one window: %d, %d", len(p.Windows()), e)
	}
	q := begin(t, p.Setup)
	if e := q.Restore(p.Text()); e != api.OK || q.Text() != p.Text() {
		t.Errorf("Restore of as many as may be: %d", e)
	}
}
