package pane

import (
	"testing"

	"tidewright/api"
)

// Promise 7.1: sessions merge, and what the merged ones gave is given back, ascending.
func TestSessions(t *testing.T) {
	p := run(t, counted(session(5), api.MRetract, 100, 0), `
		add 8 2 1 =
		add 0 1 1 =
		add 20 9 1 =
		mark 20 = on 0 [0 5) 1,1; on 0 [8 13) 1,2
		add 4 4 1 = -on 0 [0 5) 1,1; -on 0 [8 13) 1,2; late 0 [0 13) 3,7
		add 6 1 1 = -late 0 [0 13) 3,7; late 1 [0 13) 4,8
		add 13 1 1 = late 0 [13 18) 1,1
		add 12 1 1 = -late 1 [0 13) 4,8; -late 0 [13 18) 1,1; late 0 [0 18) 6,10
	`)
	holds(t, p, "[0 18) 6,10: 4 1, 1 2, 1 4\n[20 25) -: 1 9")
	// Also a single one merges into a greater one; one within which the time's window lies goes on.
	p = run(t, counted(session(5), api.MRetract, 100, 0), `
		add 0 1 1 =
		add 9 1 1 =
		add 4 1 1 =
		add 5 1 1 =
		mark 14 = on 0 [0 14) 4,4
		add 3 1 1 = -on 0 [0 14) 4,4; late 1 [0 14) 5,5
		add 0 1 1 = -late 1 [0 14) 5,5; late 2 [0 14) 6,6
		add 9 1 1 = -late 2 [0 14) 6,6; late 3 [0 14) 7,7
		add 10 1 1 = -late 3 [0 14) 7,7
		mark 15 = on 0 [0 15) 8,8
		add -1 1 1 = -on 0 [0 15) 8,8; late 0 [-1 15) 9,9
		add 15 1 1 =
		add -6 1 1 = late 0 [-6 -1) 1,1
		mark 20 = on 0 [15 20) 1,1
		add 11 1 1 = -late 0 [-1 15) 9,9; -on 0 [15 20) 1,1; late 0 [-1 20) 11,11
	`)
	holds(t, p, "[-6 -1) 1,1: 1 1\n[-1 20) 11,11: 11 1")
}

// Promise 7.1: merged sessions in the other modes give nothing back.
func TestOtherSessions(t *testing.T) {
	p := run(t, counted(session(5), api.MAccumulate, 100, 0), `
		add 0 1 1 =
		add 8 2 1 =
		mark 20 = on 0 [0 5) 1,1; on 0 [8 13) 1,2
		add 4 4 1 = late 0 [0 13) 3,7
		add 18 1 1 =
		add 14 2 1 =
		add 13 2 -1 =
	`)
	holds(t, p, "[0 13) 3,7: 1 1, 1 2, 1 4\n[13 23) -: 1 1")
	p = run(t, counted(session(5), api.MDiscard, 100, 0), `
		add 0 1 1 =
		add 8 2 1 =
		mark 20 = on 0 [0 5) 1,1; on 0 [8 13) 1,2
		add 4 4 1 = late 0 [0 13) 1,4
		add 17 1 1 =
		add 12 8 1 = late 0 [0 17) 1,8
		add 16 8 1 =
		mark 21 =
		mark 22 = on 0 [0 22) 2,9
		add 3 1 -1 = ErrState
	`)
	holds(t, p, "[0 22) 2,9:")
}

// Promise 7.1: a session is late if the merged one is gone; its end, not the row's, is what counts.
func TestLateSessions(t *testing.T) {
	p := run(t, counted(session(5), api.MRetract, 2, 0), `
		add 10 1 1 =
		mark 16 = on 0 [10 15) 1,1
		add 8 1 1 = -on 0 [10 15) 1,1; late 0 [8 15) 2,2
		add 3 1 1 = ErrLate
		add -7 1 1 = ErrLate
		add 9 1 -1 = -late 0 [8 15) 2,2; late 1 [8 15) 1,1
		add 14 1 1 = -late 1 [8 15) 1,1
		add 3 1 1 = ErrLate
		mark 18 =
		add 13 1 1 =
		mark 19 = on 0 [8 19) 3,3
		mark 20 =
		add 4 2 1 = -on 0 [8 19) 3,3; late 0 [4 19) 4,5
		mark 21 =
		add 4 2 1 = ErrLate
	`)
	holds(t, p, "")
}

// Promise 7.1: a merged session has had as many rows since its last pane as those that merged.
func TestEarlySessions(t *testing.T) {
	run(t, counted(session(5), api.MRetract, 100, 4), `
		add 0 1 2 =
		add 8 1 3 =
		add 20 1 1 =
		add 4 1 1 = early 0 [0 13) 6,6
		add 10 1 2 = -early 0 [0 13) 6,6
		add 22 1 1 =
		add 17 1 1 =
		add 12 1 1 =
		add 16 1 1 = early 0 [0 27) 13,13
		add 16 1 4 = -early 0 [0 27) 13,13; early 1 [0 27) 17,17
	`)
	run(t, counted(session(5), api.MRetract, 0, 2), `
		add 0 1 2 = early 0 [0 5) 2,2
		add 3 1 1 = -early 0 [0 5) 2,2
		add 3 1 1 = early 0 [0 8) 4,4
		add 3 1 -1 =
		mark 8 = -early 0 [0 8) 4,4; on 1 [0 8) 3,3
	`)
}

// Promise 7.1: what is taken out is taken of the merged session's rows.
func TestTakenOutOfSessions(t *testing.T) {
	p := run(t, counted(session(5), api.MRetract, 100, 0), `
		add 0 1 2 =
		add 8 1 1 =
		add 8 2 1 =
		mark 13 = on 0 [0 5) 2,2; on 0 [8 13) 2,3
		add 4 1 -4 = ErrState
		add 4 2 -2 = ErrState
		add 4 3 -1 = ErrState
		add 30 1 -1 = ErrState
		add 4 1 -3 = -on 0 [0 5) 2,2; -on 0 [8 13) 2,3; late 0 [0 13) 1,2
		add 4 2 -1 = -late 0 [0 13) 1,2
		add 4 2 1 = late 1 [0 13) 1,2
	`)
	holds(t, p, "[0 13) 1,2: 1 2")
}

// fill puts so many rows of different numbers into a session.
func fill(t *testing.T, p *Panes, time, first, count int) {
	t.Helper()
	for n := range count {
		if _, e := p.Add(time, api.Row{num(first + n)}, 1); e != api.OK {
			t.Fatalf("row %d: %d", n, e)
		}
	}
}

// Promise 7.1: the contents of merged sessions that are no valid bag; and a session more, or fewer, among as many as may be.
func TestLimitOfSessions(t *testing.T) {
	p := begin(t, counted(session(5), api.MRetract, 0, 0))
	fill(t, p, 0, 0, 200)
	fill(t, p, 8, 200, 200)
	text := p.Text()
	if l, e := p.Add(4, asRow("400"), 1); len(l) > 0 || e != api.ErrLimit || p.Text() != text {
		t.Errorf("401 rows: %v, %d", l, e)
	}
	if _, e := p.Add(4, asRow("400"), -1); e != api.ErrState {
		t.Errorf("ErrState before ErrLimit: %d", e)
	}
	if _, e := p.Add(4, asRow("7"), 1); e != api.OK {
		t.Errorf("400 rows: %d", e)
	}
	p = begin(t, counted(session(5), api.MRetract, 0, 0))
	fill(t, p, 0, 0, 200)
	fill(t, p, 8, 200, 201)
	text = p.Text()
	for _, n := range []int{1, -1} {
		if l, e := p.Add(4, asRow("7"), n); len(l) > 0 || e != api.ErrLimit || p.Text() != text {
			t.Errorf("401 rows that merge: %v, %d", l, e)
		}
	}
	p = begin(t, counted(session(5), api.MRetract, 0, 0))
	for n := range api.MaxRows {
		fill(t, p, 10*n, 0, 1)
	}
	if _, e := p.Add(-5, asRow("1"), 1); e != api.ErrLimit {
		t.Errorf("a session too many: %d", e)
	}
	if _, e := p.Add(4, asRow("1"), 1); e != api.OK || len(p.Windows()) != api.MaxRows {
		t.Errorf("a session that grows: %d", e)
	}
	if _, e := p.Add(8, asRow("1"), 1); e != api.OK || len(p.Windows()) != api.MaxRows-1 {
		t.Errorf("two sessions that merge: %d", e)
	}
	if _, e := p.Add(-5, asRow("1"), 1); e != api.OK {
		t.Errorf("a session more: %d", e)
	}
}
