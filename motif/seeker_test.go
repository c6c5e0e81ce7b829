package motif

import (
	"math"
	"strconv"
	"strings"
	"testing"

	"tidewright/api"
	"tidewright/row"
)

// begin returns a new seeker.
func begin(t *testing.T, s api.Schema, p api.Pattern) *Seeker {
	t.Helper()
	k, e := NewSeeker(s, p)
	if k == nil || e != api.OK {
		t.Fatalf("NewSeeker(%q) = %d", Format(p), e)
	}
	return k
}

// shown writes matches as `0 6, 2 8; 2 8, 3 9`: their events, with times and rows.
func shown(l [][]api.Event) string {
	var matches []string
	for _, match := range l {
		var events []string
		for _, x := range match {
			events = append(events, strconv.Itoa(x.Time)+" "+row.Text(x.Row))
		}
		matches = append(matches, strings.Join(events, ", "))
	}
	return strings.Join(matches, "; ")
}

// errno returns the error of a name, and that there is none for all else.
func errno(name string) api.Errno {
	switch name {
	case "ErrInvalid":
		return api.ErrInvalid
	case "ErrLate":
		return api.ErrLate
	case "ErrLimit":
		return api.ErrLimit
	case "ErrRange":
		return api.ErrRange
	}
	return api.OK
}

// tell tells a seeker what a line says, `add TIME ROW` or `mark M`.
func tell(k *Seeker, line string) ([][]api.Event, api.Errno) {
	call, rest, _ := strings.Cut(strings.TrimSpace(line), " ")
	if call == "add" {
		return nil, k.Add(event(rest))
	}
	m, err := strconv.Atoi(rest)
	if call != "mark" || err != nil {
		panic("no line: " + line)
	}
	return k.Mark(m)
}

// run tells a seeker lines, behind a `=` with what they give or the error, and checks that nothing changes with an error.
func run(t *testing.T, k *Seeker, script string) {
	t.Helper()
	for line := range strings.Lines(strings.TrimSpace(script)) {
		words, want, _ := strings.Cut(strings.TrimSpace(line), "=")
		want = strings.TrimSpace(want)
		before := k.Text()
		l, e := tell(k, words)
		switch {
		case e != errno(want):
			t.Errorf("%s: error %d, not %q", words, e, want)
		case e == api.OK && shown(l) != want:
			t.Errorf("%s: %q, not %q", words, shown(l), want)
		case e != api.OK && (len(l) > 0 || k.Text() != before):
			t.Errorf("%s: with the error %d %q, and %q of %q", words, e, shown(l), k.Text(), before)
		}
	}
}

// Promise 8.2: the chapter's example, told in another order.
func TestSeeker(t *testing.T) {
	k := begin(t, narrow(), pattern("within 10 skip 0 / next a {v > 5} / then b {v > a.v}"))
	if k.Now() != -maxTime || k.Waiting() != 0 {
		t.Errorf("at first: %d, %d", k.Now(), k.Waiting())
	}
	run(t, k, `
		mark -1000000000000 =
		add 3 9 =
		add 0 6 =
		add 2 8 =
		mark 0 =
		add 1 3 =
		mark 2 =
		mark 2 =
		add 1 9 = ErrLate
		mark 3 = 0 6, 2 8
		mark 1 = ErrRange
		mark 3 =
		add 2 7 = ErrLate
		mark 4 = 2 8, 3 9
		add 3 9 = ErrLate
		add 4 10 =
		mark 5 = 3 9, 4 10
	`)
	if k.Now() != 5 {
		t.Errorf("at %d", k.Now())
	}
	run(t, k, `
		add 13 11 =
		mark 14 = 4 10, 13 11
		add 25 12 =
		mark 1000000000001 =
		add 1000000000000 5 = ErrLate
		mark 1000000000001 =
		mark 1000000000002 = ErrRange
		mark 1000000000000 = ErrRange
	`)
	if k.Now() != end || k.Waiting() != 0 {
		t.Errorf("in the end: %d, %d", k.Now(), k.Waiting())
	}
}

// Promise 8.2: with Skip 0 matches are told by their last events, of one last event in the order of matches.
func TestSeekerOrder(t *testing.T) {
	k := begin(t, narrow(), pattern("within 10 skip 0 / next a {v < 10} / any b {v = a.v + 10}"))
	run(t, k, `
		add 1 1 =
		add 2 2 =
		add 3 3 =
		add 4 13 =
		add 5 11 =
		add 5 12 =
		add 6 3 =
		add 7 12 =
		add 7 13 =
		mark 6 = 3 3, 4 13; 1 1, 5 11; 2 2, 5 12
		add 7 11 =
		mark 20 = 1 1, 7 11; 2 2, 7 12; 3 3, 7 13; 6 3, 7 13
	`)
	// Equal events are different ones.
	run(t, begin(t, narrow(), pattern("within 10 skip 0 / next a {v < 10} / any b {v = a.v + 10}")), `
		add 5 11 =
		add 5 12 =
		add 2 1 =
		add 1 1 =
		add 1 2 =
		add 5 11 =
		mark 6 = 1 1, 5 11; 2 1, 5 11; 1 1, 5 11; 2 1, 5 11; 1 2, 5 12
	`)
}

// Promise 8.2: with Skip 1 and 2 matches are told when the time within which they end is over, in order.
func TestSeekerSkip(t *testing.T) {
	k := begin(t, narrow(), pattern("within 10 skip 1 / next a {1} / any b {v > a.v}"))
	run(t, k, `
		add 0 6 =
		add 1 3 =
		add 2 8 =
		add 3 9 =
		add 4 8 =
		mark 5 =
		mark 10 =
		add 10 10 =
		mark 11 = 0 6, 2 8
		add 11 1 =
		add 12 2 =
		mark 13 =
		mark 14 = 3 9, 10 10
		mark 21 =
		mark 22 = 11 1, 12 2
		mark 1000000000001 =
	`)
	k = begin(t, narrow(), pattern("within 10 skip 2 / next a {1} / any b {v > a.v}"))
	run(t, k, `
		add 0 6 =
		add 1 3 =
		add 2 8 =
		add 3 9 =
		mark 11 = 0 6, 2 8
		add 12 5 =
		add 12 1 =
		mark 12 = 1 3, 2 8
		mark 13 = 2 8, 3 9
		add 13 2 =
		add 13 7 =
		mark 23 = 12 1, 12 5; 12 5, 13 7
		mark 1000000000001 = 13 2, 13 7
	`)
	// A match that is left out may have been told by Skip 0 long before; what leaves it out is told with what comes behind it.
	k = begin(t, narrow(), pattern("within 10 skip 1 / next a {v < 5} / any b {v = a.v + 5}"))
	run(t, k, `
		add 0 1 =
		add 1 2 =
		add 2 7 =
		mark 10 =
		add 10 6 =
		mark 11 = 0 1, 10 6
		mark 1000000000001 =
	`)
	k = begin(t, narrow(), pattern("within 10 skip 1 / next a {v < 5} / any b {v = a.v + 5}"))
	run(t, k, `
		add 0 1 =
		add 1 2 =
		add 2 7 =
		mark 10 =
		add 11 6 =
		mark 11 =
		mark 12 = 1 2, 2 7
		mark 1000000000001 =
	`)
}

// Promise 8.2: at the greatest mark all matches are told, also those within whose time more might come.
func TestGreatestMark(t *testing.T) {
	for skip, want := range []string{
		"0 1, 999999999 2; 999999999 2, 1000000000 3",
		"0 1, 999999999 2; 1000000000 3, 1000000000 4",
		"0 1, 999999999 2; 999999999 2, 1000000000 3; 1000000000 3, 1000000000 4",
	} {
		p := pattern("within 1000000000 skip 0 / next a {1} / next b {1}")
		p.Skip = skip
		k := begin(t, narrow(), p)
		run(t, k, `
			add 0 1 =
			add 999999999 2 =
			add 1000000000 3 =
			add 1000000000 4 =
		`)
		if skip == 0 {
			want += "; 1000000000 3, 1000000000 4"
		}
		run(t, k, "mark 1000000000001 = "+want)
	}
	for skip := range 3 {
		p := pattern("within 5 skip 0 / next a {1} / next b {1}")
		p.Skip = skip
		k := begin(t, narrow(), p)
		run(t, k, `
			add 999999999999 1 =
			add 1000000000000 2 =
			mark 1000000000000 =
			mark 1000000000001 = 999999999999 1, 1000000000000 2
			mark 1000000000001 =
		`)
	}
}

// Promise 8.2: what comes within no time, from the least time on, and the longest.
func TestSeekerWithin(t *testing.T) {
	for skip := range 3 {
		p := pattern("within 0 skip 0 / next a {1} / any b {v > a.v}")
		p.Skip = skip
		run(t, begin(t, narrow(), p), `
			add -1000000000000 2 =
			add -1000000000000 1 =
			add -999999999999 3 =
			mark -999999999999 = -1000000000000 1, -1000000000000 2
			add -999999999999 2 =
			mark -999999999998 = -999999999999 2, -999999999999 3
		`)
	}
	run(t, begin(t, narrow(), pattern("within 1000000000 skip 0 / next a {1} / any b {v > a.v}")), `
		add 0 2 =
		mark 999999999 =
		add 1000000000 3 =
		add 1000000001 4 =
		mark 1000000000 =
		add 1000000000 5 =
		mark 1000000001 = 0 2, 1000000000 3; 0 2, 1000000000 5; 1000000000 3, 1000000000 5
		mark 1000000002 = 1000000000 3, 1000000001 4
	`)
	run(t, begin(t, narrow(), pattern("within 1000000000 skip 2 / next a {1} / any b {v > a.v}")), `
		add 0 2 =
		add 1 3 =
		mark 1000000000 =
		mark 1000000001 = 0 2, 1 3
	`)
}

// Promise 8.2: what lies between counts also if it begins no match, and if it has come long before.
func TestSeekerBetween(t *testing.T) {
	run(t, begin(t, narrow(), pattern("within 10 skip 0 / next a {v = 1} / then b {v > 1} unless {v < 0}")), `
		add 0 1 =
		add 1 0 =
		add 2 1 =
		add 4 -1 =
		mark 3 =
		add 5 1 =
		mark 7 =
		add 8 4 =
		mark 9 = 5 1, 8 4
		add 9 5 =
		mark 20 =
	`)
	run(t, begin(t, narrow(), pattern("within 3 skip 0 / next a {v} / next b {v}")), `
		add 0 1 =
		add 2 3 =
		mark 1 =
		add 1 0 =
		mark 3 =
		add 3 4 =
		mark 4 = 2 3, 3 4
	`)
}

// Promise 8.2: how many it holds: none at first and none in the end, no more than it was told, and not those behind which all has come.
func TestWaiting(t *testing.T) {
	for skip := range 3 {
		p := pattern("within 5 skip 0 / next a {1} / any b {v > a.v}")
		p.Skip = skip
		k := begin(t, narrow(), p)
		for i := range 40 {
			k.Add(event(strconv.Itoa(i) + " 1"))
			k.Add(event(strconv.Itoa(-maxTime) + " 1")) // it is late but for the first time
			if k.Waiting() > 8 {
				t.Errorf("skip %d: at %d %d wait", skip, i, k.Waiting())
			}
			before := k.Waiting()
			k.Mark(i)
			if k.Waiting() > before || k.Waiting() == 0 {
				t.Errorf("skip %d: at %d %d wait, %d before", skip, i, k.Waiting(), before)
			}
		}
		k.Mark(1000)
		if k.Waiting() != 0 {
			t.Errorf("skip %d: %d wait", skip, k.Waiting())
		}
	}
	k := begin(t, narrow(), pattern("within 1000000000 skip 0 / next a {1}"))
	k.Add(event("1000000000000 1"))
	if k.Waiting() != 1 {
		t.Errorf("%d wait", k.Waiting())
	}
	k.Mark(end)
	if k.Waiting() != 0 {
		t.Errorf("%d wait", k.Waiting())
	}
}

// Promise 8.2: 40 events in all, those that are no longer held among them; none that was refused.
func TestTold(t *testing.T) {
	k := begin(t, narrow(), pattern("within 0 skip 0 / next a {v = 7}"))
	for i := range 40 {
		k.Mark(10 * i)
		if e := k.Add(event(strconv.Itoa(10*i-1) + " 7")); e != api.ErrLate {
			t.Errorf("late: %d", e)
		}
		if e := k.Add(api.Event{Time: 10 * i}); e != api.ErrInvalid {
			t.Errorf("no row: %d", e)
		}
		if e := k.Add(event(strconv.Itoa(10*i) + " 7")); e != api.OK {
			t.Errorf("the event %d: %d", i, e)
		}
	}
	run(t, k, `
		add 390 1 = ErrLimit
		add 389 1 = ErrLate
		mark 391 = 390 7
		add 391 7 = ErrLimit
		add 390 7 = ErrLate
		mark 1000000000001 =
		add 1000000000000 7 = ErrLate
	`)
}

// Promise 8.2: more than MaxRows matches of the events below a mark, also if they were told, and before any is left out.
func TestSeekerLimit(t *testing.T) {
	// The matches of rises end from 20 on, so that at 39 there are 380 or 381 of them.
	for skip, first := range []string{"", "0 0, 20 1", "0 0, 20 1"} {
		for _, extra := range []bool{false, true} {
			p := pattern("within 39 skip 0 / next a {1} / any b {v > a.v}")
			p.Skip = skip
			k := begin(t, narrow(), p)
			for _, x := range rises(extra) {
				if e := k.Add(x); e != api.OK {
					t.Fatal(e)
				}
			}
			total := 0
			for _, m := range []int{5, 20, 30, 39} {
				l, e := k.Mark(m)
				total += len(l)
				if e != api.OK {
					t.Errorf("skip %d, %t: Mark(%d) = %d", skip, extra, m, e)
				}
			}
			text := k.Text()
			l, e := k.Mark(40)
			if extra {
				if len(l) > 0 || e != api.ErrLimit || k.Text() != text || k.Now() != 39 {
					t.Errorf("skip %d: %d, %d", skip, len(l), e)
				}
				if l, e = k.Mark(39); len(l) > 0 || e != api.OK {
					t.Errorf("skip %d: the same mark: %d, %d", skip, len(l), e)
				}
				if l, e = k.Mark(end); len(l) > 0 || e != api.ErrLimit {
					t.Errorf("skip %d: the greatest mark: %d, %d", skip, len(l), e)
				}
				continue
			}
			total += len(l)
			if e != api.OK || shown(l[:min(len(l), len(first))]) != first && skip > 0 {
				t.Errorf("skip %d: %q, %d", skip, shown(l), e)
			}
			l, e = k.Mark(end)
			total += len(l)
			if want := []int{400, 1, 20}[skip]; total != want || e != api.OK {
				t.Errorf("skip %d: %d matches in all, %d", skip, total, e)
			}
		}
	}
}

// Promise 8.2: matches whose events are gone count as well.
func TestLimitOfGone(t *testing.T) {
	for skip, want := range [][2]int{{200, 200}, {1, 1}, {5, 5}} {
		p := pattern("within 10 skip 0 / next a {v = 1} / any b {v = 2} / any c {v = 3}")
		p.Skip = skip
		k := begin(t, narrow(), p)
		for _, time := range []int{0, 50} { // 5 * 5 * 8 matches each
			for i := range 18 {
				k.Add(api.Event{Time: time, Row: api.Row{num(1 + min(i/5, 2))}})
			}
		}
		for i := range 3 {
			k.Add(api.Event{Time: 80 + i, Row: api.Row{num(1 + i)}})
		}
		for i, m := range []int{20, 82} {
			if l, e := k.Mark(m); len(l) != want[i] || e != api.OK {
				t.Errorf("skip %d: Mark(%d) = %d, %d", skip, m, len(l), e)
			}
		}
		if k.Waiting() != 3 {
			t.Errorf("skip %d: %d wait", skip, k.Waiting())
		}
		if l, e := k.Mark(83); len(l) != 0 || e != api.ErrLimit || k.Now() != 82 {
			t.Errorf("skip %d: %d, %d at %d", skip, len(l), e, k.Now())
		}
	}
}

// Promise 8.2: what is not valid, and what is no seeker.
func TestSeekerErrors(t *testing.T) {
	k := begin(t, wide(), good())
	k.Add(event("3 1,~"))
	k.Mark(2)
	text := k.Text()
	for _, x := range invalidEvents() {
		if e := k.Add(x); e != api.ErrInvalid || k.Text() != text {
			t.Errorf("Add(%v) = %d", x, e)
		}
	}
	for _, m := range []int{1, 0, -maxTime, -maxTime - 1, end + 1, math.MaxInt, math.MinInt} {
		if l, e := k.Mark(m); len(l) > 0 || e != api.ErrRange || k.Text() != text {
			t.Errorf("Mark(%d) = %v, %d", m, l, e)
		}
	}
	for _, k := range []*Seeker{nil, {}} {
		if e := k.Add(event("1 1")); e != api.ErrInvalid {
			t.Errorf("Add = %d", e)
		}
		if l, e := k.Mark(end + 1); len(l) > 0 || e != api.ErrInvalid {
			t.Errorf("Mark = %v, %d", l, e)
		}
		if k.Now() != 0 || k.Waiting() != 0 || k.Text() != "" {
			t.Errorf("%d, %d, %q", k.Now(), k.Waiting(), k.Text())
		}
		if e := k.Restore(text); e != api.ErrInvalid {
			t.Errorf("Restore = %d", e)
		}
		if e := k.Restore(""); e != api.ErrInvalid {
			t.Errorf("Restore of nothing = %d", e)
		}
	}
}
