package pair

import (
	"math"
	"strconv"
	"strings"
	"testing"

	"tidewright/api"
	"tidewright/bag"
	"tidewright/row"
)

const (
	maxTime = api.MaxTime
	end     = maxTime + 1 // the greatest mark
)

func num(n int) api.Value { return api.Value{Kind: api.VInt, N: n} }

// asRow returns the row of a text.
func asRow(s string) api.Row {
	r, e := row.Parse(s)
	if e != api.OK {
		panic("no row: " + s)
	}
	return r
}

// asNumber returns the number that a text begins with, and what stands behind the blank.
func asNumber(s string) (int, string) {
	first, rest, _ := strings.Cut(strings.TrimLeft(s, " "), " ")
	n, err := strconv.Atoi(first)
	if err != nil {
		panic("no number: " + s)
	}
	return n, rest
}

// event returns the event of `TIME ROW`.
func event(s string) api.Event {
	time, values := asNumber(s)
	return api.Event{Time: time, Row: asRow(values)}
}

// change returns the change of `TIME N ROW`.
func change(s string) api.Change {
	time, rest := asNumber(s)
	n, values := asNumber(rest)
	return api.Change{Time: time, Row: asRow(values), N: n}
}

// list returns what one returns of each of the pieces between semicolons.
func list[T any](s string, one func(string) T) []T {
	var l []T
	for piece := range strings.SplitSeq(s, ";") {
		if s != "" {
			l = append(l, one(piece))
		}
	}
	return l
}

func eventsOf(s string) []api.Event { return list(s, event) }

// bagOf returns the bag of `N ROW; N ROW`, valid or not.
func bagOf(s string) api.Bag {
	return list(s, func(s string) api.Item {
		n, values := asNumber(s)
		return api.Item{Row: asRow(values), N: n}
	})
}

// shownEvents writes events as eventsOf reads them.
func shownEvents(l []api.Event) string {
	var pieces []string
	for _, x := range l {
		pieces = append(pieces, strconv.Itoa(x.Time)+" "+row.Text(x.Row))
	}
	return strings.Join(pieces, "; ")
}

// shownChanges writes changes as change reads one.
func shownChanges(l []api.Change) string {
	var pieces []string
	for _, x := range l {
		pieces = append(pieces, strconv.Itoa(x.Time)+" "+strconv.Itoa(x.N)+" "+row.Text(x.Row))
	}
	return strings.Join(pieces, "; ")
}

// shownBag writes a bag as bagOf reads it.
func shownBag(b api.Bag) string {
	return strings.ReplaceAll(strings.TrimSuffix(bag.Format(b), "\n"), "\n", "; ")
}

// first returns the columns 0 to n - 1.
func first(n int) []int {
	cols := make([]int, n)
	for i := range cols {
		cols[i] = i
	}
	return cols
}

// manyEvents returns n events at the time 0 with the key 1 and a number.
func manyEvents(n int) []api.Event {
	l := make([]api.Event, n)
	for i := range l {
		l[i].Row = api.Row{num(1), num(i)}
	}
	return l
}

// manyItems returns a bag of n rows with a key and a number, each k times.
func manyItems(n, key, k int) api.Bag {
	b := make(api.Bag, n)
	for i := range b {
		b[i] = api.Item{Row: api.Row{num(key), num(i)}, N: k}
	}
	return b
}

// wrongEvents returns lists that are no lists of events.
func wrongEvents() [][]api.Event {
	var l [][]api.Event
	for _, x := range []api.Event{
		{Time: maxTime + 1}, {Time: -maxTime - 1}, {Time: math.MaxInt}, {Row: make(api.Row, 9)},
		{Row: api.Row{{Kind: 3}}}, {Row: api.Row{{N: 1}}}, {Row: api.Row{num(api.MaxInt + 1)}},
	} {
		l = append(l, []api.Event{x}, []api.Event{{}, x})
	}
	return append(l, make([]api.Event, 101))
}

// wrongChanges returns changes that are none.
func wrongChanges() []api.Change {
	l := []api.Change{{}, {N: api.MaxCount + 1}, {N: -api.MaxCount - 1}, {N: math.MinInt}}
	for _, events := range wrongEvents() {
		if len(events) == 1 {
			l = append(l, api.Change{Time: events[0].Time, Row: events[0].Row, N: 1})
		}
	}
	return l
}

func checkEvents(t *testing.T, what string, got []api.Event, e api.Errno, want string, wantE api.Errno) {
	t.Helper()
	if shownEvents(got) != want || e != wantE {
		t.Errorf("%s: %q, %d, not %q, %d", what, shownEvents(got), e, want, wantE)
	}
}

func checkBag(t *testing.T, what string, got api.Bag, e api.Errno, want string, wantE api.Errno) {
	t.Helper()
	if shownBag(got) != want || e != wantE || wantE != api.OK && len(got) > 0 {
		t.Errorf("%s: %q, %d, not %q, %d", what, shownBag(got), e, want, wantE)
	}
}

// Promise 9.1: SameKey.
func TestSameKey(t *testing.T) {
	nine := make([]int, 9)
	for _, x := range []struct {
		on, others []int
		l, r       string
		want       bool
	}{
		{first(1), first(1), "1,2", "1,3", true},
		{first(1), first(1), "1,2", "2,2", false},
		{first(2), []int{1, 0}, "1,2", "2,1", true},
		{first(2), first(2), "1,2", "2,1", false},
		{first(2), first(2), "1,2", "1,3", false},
		{nil, nil, "1", "2,3", true},
		{nil, []int{}, "", "~", true},
		{first(1), first(1), "~", "~", false},
		{first(2), first(2), "1,~", "1,~", false},
		{first(1), first(1), "1,~", "1,~", true},
		{first(1), first(1), "1", `"1"`, false},
		{first(1), first(1), `"~"`, `"~"`, true},
		{first(2), first(2), `"a","b"`, `"a,b",""`, false},
		{[]int{0, 0}, []int{1, 2}, "5", "1,5,5", true},
		{[]int{0, 0}, []int{1, 2}, "5", "1,5,6", false},
		{first(8), first(8), "1,2,3,4,5,6,7,8", "1,2,3,4,5,6,7,8", true},
		{first(1), nil, "1", "1", false},
		{nil, first(1), "1", "1", false},
		{nine, nine, "1", "1", false},
		{[]int{1}, first(1), "1", "1", false},
		{first(1), []int{1}, "1", "1", false},
		{[]int{-1}, first(1), "1", "1", false},
		{first(1), []int{math.MinInt}, "1", "1", false},
		{first(1), []int{math.MaxInt}, "1", "1", false},
	} {
		if got := SameKey(x.on, x.others, asRow(x.l), asRow(x.r)); got != x.want {
			t.Errorf("SameKey(%v, %v, %q, %q) = %t", x.on, x.others, x.l, x.r, got)
		}
	}
	good, wrong := asRow("1"), api.Row{num(1), {Kind: 7}}
	if SameKey(first(1), first(1), good, wrong) || SameKey(first(1), first(1), wrong, good) || SameKey(nil, nil, make(api.Row, 9), good) {
		t.Error("a row that is not valid has a key")
	}
}
