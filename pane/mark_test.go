package pane

import (
	"testing"

	"tidewright/api"
)

// Promise 7.1: windows fire ascending by their ends, then by their beginnings.
func TestMark(t *testing.T) {
	p := run(t, counted(sliding(10, 4), api.MRetract, 3, 0), `
		add 9 1 1 =
		add 3 2 1 =
		add -5 4 1 =
		mark -2 = on 0 [-12 -2) 1,4
		mark -2 =
		mark 2 = on 0 [-8 2) 1,4
		mark 3 =
		mark 13 = on 0 [-4 6) 1,2; on 0 [0 10) 2,3
		mark 1000000000000 = on 0 [4 14) 1,1; on 0 [8 18) 1,1
	`)
	if p.Now() != maxTime || len(p.Windows()) != 0 {
		t.Errorf("at %d: %v", p.Now(), p.Windows())
	}
	p = run(t, counted(session(5), api.MRetract, 10, 0), `
		add 10 1 1 =
		add 12 1 1 =
		add 1 1 1 =
		add 30 1 1 =
		mark 17 = on 0 [1 6) 1,1; on 0 [10 17) 2,2
		mark 20 =
	`)
	holds(t, p, "[10 17) 2,2: 2 1\n[30 35) -: 1 1")
	if p.Now() != 20 {
		t.Errorf("at %d", p.Now())
	}
}

// Promise 7.1: windows are gone when their lateness is over, not before.
func TestGone(t *testing.T) {
	p := begin(t, counted(tumbling(10), api.MAccumulate, maxSpan, 0))
	p.Add(5, asRow("1"), 1)
	for _, x := range []struct{ mark, windows int }{{9, 1}, {10, 1}, {10 + maxSpan - 1, 1}, {10 + maxSpan, 0}} {
		p.Mark(x.mark)
		if len(p.Windows()) != x.windows {
			t.Errorf("at %d: %v", x.mark, p.Windows())
		}
	}
}

// Promise 7.1: at the greatest mark all windows fire, also those that reach beyond the times, and those that stay for their lateness.
func TestGreatestMark(t *testing.T) {
	p := run(t, counted(session(5), api.MRetract, 0, 0), `
		add 1000000000000 1 1 =
		add 999999999997 2 1 =
		add -1000000000000 4 1 =
		mark 1000000000000 = on 0 [-1000000000000 -999999999995) 1,4
		add 1000000000000 1 1 =
		mark 1000000000001 = on 0 [999999999997 1000000000005) 3,4
		mark 1000000000001 =
		add 1000000000000 8 1 = -on 0 [999999999997 1000000000005) 3,4; late 1 [999999999997 1000000000005) 4,12
		add 999999999996 1 1 = -late 1 [999999999997 1000000000005) 4,12; late 0 [999999999996 1000000000005) 5,13
		add 999999999991 1 1 = ErrLate
	`)
	holds(t, p, "[999999999996 1000000000005) 5,13: 3 1, 1 2, 1 8")
	p = run(t, counted(tumbling(10), api.MAccumulate, 10, 1), `
		add 999999999985 1 1 = early 0 [999999999980 999999999990) 1,1
		mark 1000000000001 = on 1 [999999999980 999999999990) 1,1
		add 999999999985 1 1 = ErrLate
		add 999999999991 2 1 = late 0 [999999999990 1000000000000) 1,2
		add 1000000000000 1 1 = late 0 [1000000000000 1000000000010) 1,1
		mark 1000000000001 =
		mark 1000000000002 = ErrRange
	`)
	holds(t, p, "[999999999990 1000000000000) 1,2: 1 2\n[1000000000000 1000000000010) 1,1: 1 1")
	// The global window ends at the greatest mark alone, and is gone then if it waits for nothing.
	p = run(t, counted(global(), api.MRetract, 1, 0), `
		add 0 1 1 =
		mark 1000000000000 =
		mark 1000000000001 = on 0 [-1000000000000 1000000000001) 1,1
		add 5 1 1 = -on 0 [-1000000000000 1000000000001) 1,1; late 1 [-1000000000000 1000000000001) 2,2
	`)
	holds(t, p, "[-1000000000000 1000000000001) 2,2: 2 1")
	p = run(t, counted(global(), api.MRetract, 0, 0), `
		add 0 1 1 =
		mark 1000000000001 = on 0 [-1000000000000 1000000000001) 1,1
		add 5 1 1 = ErrLate
	`)
	holds(t, p, "")
}

// Promise 7.1: a mark that is told first, and one that is told again.
func TestSameMark(t *testing.T) {
	run(t, counted(tumbling(10), api.MRetract, 50, 0), `
		mark -1000000000000 =
		add 5 1 1 =
		mark 20 = on 0 [0 10) 1,1
		mark 20 =
		mark 30 =
		mark 30 =
	`)
}
