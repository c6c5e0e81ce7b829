package pane

import (
	"math"
	"slices"
	"strings"
	"testing"

	"tidewright/api"
)

// given returns the pane of a window that begins at from, given or given back.
func given(from, kind, number int, back bool, text string) api.Pane {
	return api.Pane{Window: window(from, from+10), Kind: kind, Number: number, Back: back, Row: asRow(text)}
}

// Promise 7.3.
func TestFinal(t *testing.T) {
	for _, x := range []struct {
		what string
		l    []api.Pane
		want string
		e    api.Errno
	}{
		{"nothing", nil, "", api.OK},
		{"one", []api.Pane{given(0, api.POn, 0, false, "1")}, "on 0 [0 10) 1", api.OK},
		{"the last of each window, ascending", []api.Pane{
			given(10, api.PEarly, 0, false, "1"), given(0, api.POn, 0, false, "2"), given(10, api.POn, 1, false, "3"), given(-10, api.POn, 5, false, "4"), given(0, api.PLate, 1, false, "2"),
		}, "on 5 [-10 0) 4; late 1 [0 10) 2; on 1 [10 20) 3", api.OK},
		{"the last told, whatever its number", []api.Pane{given(0, api.POn, 7, false, "1"), given(0, api.POn, 3, false, "2")}, "on 3 [0 10) 2", api.OK},
		{"all given back", []api.Pane{given(0, api.POn, 0, false, "1"), given(0, api.POn, 0, true, "1")}, "", api.OK},
		{"one before is left", []api.Pane{given(0, api.PEarly, 0, false, "1"), given(0, api.POn, 1, false, "2"), given(0, api.POn, 1, true, "2")}, "early 0 [0 10) 1", api.OK},
		{"one before is given back", []api.Pane{given(0, api.PEarly, 0, false, "1"), given(0, api.POn, 1, false, "2"), given(0, api.PEarly, 0, true, "1")}, "on 1 [0 10) 2", api.OK},
		{"each takes the last equal one away", []api.Pane{given(0, 1, 0, false, "1"), given(0, 2, 0, false, "2"), given(0, 1, 0, false, "1"), given(0, 1, 0, true, "1")}, "on 0 [0 10) 2", api.OK},
		{"given, given back, given again", []api.Pane{given(0, 2, 0, false, "1"), given(0, 2, 0, true, "1"), given(0, 2, 0, false, "1")}, "on 0 [0 10) 1", api.OK},
		{"of two equal ones both are given back", []api.Pane{given(0, 2, 0, false, "1"), given(0, 2, 0, false, "1"), given(0, 2, 0, true, "1"), given(0, 2, 0, true, "1")}, "", api.OK},

		{"given back alone", []api.Pane{{Back: true}}, "", api.ErrState},
		{"given back before", []api.Pane{given(0, 2, 0, true, "1"), given(0, 2, 0, false, "1")}, "", api.ErrState},
		{"given back twice", []api.Pane{given(0, 2, 0, false, "1"), given(0, 2, 0, true, "1"), given(0, 2, 0, true, "1")}, "", api.ErrState},
		{"another window", []api.Pane{given(0, 2, 0, false, "1"), given(1, 2, 0, true, "1")}, "", api.ErrState},
		{"another end", []api.Pane{given(0, 2, 0, false, "1"), {Window: window(0, 11), Kind: 2, Back: true, Row: asRow("1")}}, "", api.ErrState},
		{"another kind", []api.Pane{given(0, 2, 0, false, "1"), given(0, 3, 0, true, "1")}, "", api.ErrState},
		{"another number", []api.Pane{given(0, 2, 0, false, "1"), given(0, 2, 1, true, "1")}, "", api.ErrState},
		{"another row", []api.Pane{given(0, 2, 0, false, "1"), given(0, 2, 0, true, "2")}, "", api.ErrState},
		{"a longer row", []api.Pane{given(0, 2, 0, false, "1"), given(0, 2, 0, true, "1,~")}, "", api.ErrState},
		{"a text for a number", []api.Pane{given(0, 2, 0, false, "1"), given(0, 2, 0, true, `"1"`)}, "", api.ErrState},

		{"a row that is none", []api.Pane{given(0, 2, 0, true, "1"), {Row: api.Row{{Kind: 3}}}}, "", api.ErrInvalid},
		{"a row too long", []api.Pane{{Row: make(api.Row, 9)}}, "", api.ErrInvalid},
		{"a number too great", []api.Pane{{Row: api.Row{num(api.MaxInt + 1)}}}, "", api.ErrInvalid},
	} {
		l, e := Final(x.l)
		if shown(l) != x.want || e != x.e {
			t.Errorf("%s: %q, %d", x.what, shown(l), e)
		}
	}
	// Windows and kinds are whatever they are.
	odd := []api.Pane{{Window: window(5, -5), Kind: 99, Number: math.MinInt}, {Window: window(math.MinInt, math.MaxInt), Kind: -1}}
	if l, e := Final(odd); e != api.OK || len(l) != 2 || ComparePanes(l[0], odd[1]) != 0 || ComparePanes(l[1], odd[0]) != 0 {
		t.Errorf("odd ones: %v, %d", l, e)
	}
	// There may be many, more than rows of a bag.
	var many []api.Pane
	for n := range 100000 {
		many = append(many, given(0, 3, n%7, n%2 > 0, "1"))
		many[n].Number = n / 2
	}
	if l, e := Final(many); len(l) != 0 || e != api.OK {
		t.Errorf("many: %q, %d", shown(l), e)
	}
}

// Promise P7.1: an iterator of panes ends where it is left.
func TestLeftOf(t *testing.T) {
	left, ok := leftOf([]api.Pane{given(0, 2, 0, false, "1"), given(0, 2, 0, true, "1"), given(10, 2, 0, false, "2"), given(20, 2, 0, false, "3")})
	for range 2 {
		for x := range left {
			if !ok || x.Window != window(10, 20) {
				t.Errorf("the first one is %v, %t", x, ok)
			}
			break
		}
	}
}

// at returns events `TIME ROW`, one in each line.
func at(lines string) []api.Event {
	var l []api.Event
	for line := range strings.Lines(strings.TrimSpace(lines)) {
		time, text, _ := strings.Cut(strings.TrimSpace(line), " ")
		l = append(l, api.Event{Time: asRow(time)[0].N, Row: asRow(text)})
	}
	return l
}

// Promise 7.3: in every mode, with any lateness and early panes, the panes are the same.
func TestBatch(t *testing.T) {
	events := at("12 1\n3 2\n9 4\n25 8\n3 16\n21 32")
	for _, x := range []struct {
		spec api.Spec
		want string
	}{
		{tumbling(10), "on 0 [0 10) 3,22; on 0 [10 20) 1,1; on 0 [20 30) 2,40"},
		{sliding(10, 5), "on 0 [-5 5) 2,18; on 0 [0 10) 3,22; on 0 [5 15) 2,5; on 0 [10 20) 1,1; on 0 [15 25) 1,32; on 0 [20 30) 2,40; on 0 [25 35) 1,8"},
		{session(5), "on 0 [3 8) 2,18; on 0 [9 17) 2,5; on 0 [21 30) 2,40"},
		{session(7), "on 0 [3 19) 4,23; on 0 [21 32) 2,40"},
		{global(), "on 0 [-1000000000000 1000000000001) 6,63"},
	} {
		for _, mode := range modes() {
			for _, late := range []int{0, 7, maxSpan} {
				for early := range 3 {
					s := counted(x.spec, mode, late, early)
					if l, e := Batch(s, events); shown(l) != x.want || e != api.OK {
						t.Errorf("Batch(%+v) = %q, %d", s, shown(l), e)
					}
				}
			}
		}
	}
	for _, x := range []struct {
		events, want string
	}{
		{"1000000000000 1\n-1000000000000 2", "on 0 [-1000000000005 -999999999995) 1,2; on 0 [-1000000000000 -999999999990) 1,2; on 0 [999999999995 1000000000005) 1,1; on 0 [1000000000000 1000000000010) 1,1"},
		{"0 ~\n0 \"x\"", "on 0 [-5 5) 2,~; on 0 [0 10) 2,~"},
		{"0 1000000000000000\n0 1000000000000000\n5 -1000000000000000", "on 0 [-5 5) 2,~; on 0 [0 10) 3,1000000000000000; on 0 [5 15) 1,-1000000000000000"},
	} {
		if l, e := Batch(counted(sliding(10, 5), api.MRetract, 0, 0), at(x.events)); shown(l) != x.want || e != api.OK {
			t.Errorf("Batch of %q = %q, %d", x.events, shown(l), e)
		}
	}
	if l, e := Batch(counted(tumbling(10), api.MDiscard, 0, 0), nil); len(l) != 0 || e != api.OK {
		t.Errorf("Batch of nothing = %q, %d", shown(l), e)
	}
}

// Promise 7.3: errors in their order.
func TestBatchErrors(t *testing.T) {
	s := counted(sliding(10, 5), api.MRetract, 0, 0)
	one, beyond := api.Event{Row: asRow("1")}, api.Event{Time: maxTime + 1, Row: asRow("1")}
	var wide []api.Event
	for n := range api.MaxRows {
		wide = append(wide, api.Event{Time: 10 * n, Row: asRow("1")})
	}
	for _, x := range []struct {
		what string
		s    Setup
		l    []api.Event
		e    api.Errno
	}{
		{"no setup", Setup{}, []api.Event{one}, api.ErrInvalid},
		{"a setup that is not valid", counted(sliding(10, 5), 4, 0, 0), []api.Event{beyond}, api.ErrInvalid},
		{"no row", s, []api.Event{beyond, {}}, api.ErrInvalid},
		{"another number of values", s, []api.Event{one, {Row: asRow("1,2")}}, api.ErrInvalid},
		{"a row that is not valid", s, []api.Event{{Row: api.Row{{Kind: 9}}}, one}, api.ErrInvalid},
		{"too many events", s, slices.Repeat([]api.Event{beyond}, api.MaxRows+1), api.ErrInvalid},
		{"as many as may be", s, slices.Repeat([]api.Event{one}, api.MaxRows), api.OK},
		{"a time", s, append(slices.Clone(wide[:399]), beyond), api.ErrRange},
		{"a time below", s, []api.Event{one, {Time: -maxTime - 1, Row: asRow("1")}, one}, api.ErrRange},
		{"times far beyond", s, []api.Event{{Time: math.MinInt, Row: asRow("1")}, {Time: math.MaxInt, Row: asRow("1")}}, api.ErrRange},
		{"too many windows", s, wide, api.ErrLimit},
		{"half of them", s, wide[:200], api.OK},
		{"one event more", s, wide[:201], api.ErrLimit},
		{"as many windows as may be", counted(tumbling(10), api.MDiscard, 0, 0), wide, api.OK},
	} {
		if l, e := Batch(x.s, x.l); e != x.e || e != api.OK && len(l) > 0 {
			t.Errorf("%s: %q, %d", x.what, shown(l), e)
		}
	}
}
