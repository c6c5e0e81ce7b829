package pair

import (
	"fmt"
	"math/rand"
	"slices"
	"strings"
	"testing"

	"tidewright/api"
	"tidewright/bag"
	"tidewright/row"
)

// sameKey tells of any two rows whether they have the same key, value by value.
func sameKey(on, others []int, l, r api.Row) bool {
	for i := range on {
		if l[on[i]].Kind == api.VNull || l[on[i]] != r[others[i]] {
			return false
		}
	}
	return true
}

// tally counts rows with times by their texts; what comes to 0 is left out.
type tally map[string]int

func (y tally) add(time int, r api.Row, n int) {
	text := fmt.Sprint(time, " ", row.Text(r))
	if y[text] += n; y[text] == 0 {
		delete(y, text)
	}
}

func (y tally) addAll(l []api.Change) {
	for _, c := range l {
		y.add(c.Time, c.Row, c.N)
	}
}

// shown writes a tally in an order that does not change.
func (y tally) shown() string { return fmt.Sprint(map[string]int(y)) }

func both(l, r api.Row) api.Row { return slices.Concat(l, r) }

// intervalTally tells the interval join of changes by the chapter's words.
func intervalTally(on, others []int, low, high int, l, r []api.Change) tally {
	y := tally{}
	for _, a := range l {
		for _, b := range r {
			if d := b.Time - a.Time; sameKey(on, others, a.Row, b.Row) && low <= d && d <= high {
				y.add(max(a.Time, b.Time), both(a.Row, b.Row), a.N*b.N)
			}
		}
	}
	return y
}

// drawRow draws a row of a width, of few values.
func drawRow(r *rand.Rand, width int) api.Row {
	values := []api.Value{{}, num(1), num(1), num(2), {Kind: api.VText, S: "1"}}
	x := make(api.Row, width)
	for i := range x {
		x[i] = values[r.Intn(len(values))]
	}
	return x
}

// drawKeys draws columns of rows of two widths.
func drawKeys(r *rand.Rand, wide, width int) (on, others []int) {
	if wide == 0 || width == 0 {
		return nil, nil
	}
	for range r.Intn(3) {
		on, others = append(on, r.Intn(wide)), append(others, r.Intn(width))
	}
	return on, others
}

// drawBase draws a time around which others are drawn.
func drawBase(r *rand.Rand) int {
	return []int{0, 0, 0, maxTime - 12, -maxTime + 12}[r.Intn(5)]
}

// heldModel is what a joiner keeps of a side: times and rows.
type heldModel struct {
	counts tally
	last   map[string]int // the time of what stands in counts
}

func newHeld() *heldModel { return &heldModel{tally{}, map[string]int{}} }

func (h *heldModel) tell(c api.Change) {
	h.counts.add(c.Time, c.Row, c.N)
	h.last[fmt.Sprint(c.Time, " ", row.Text(c.Row))] = c.Time
}

func (h *heldModel) letGo(below int) int {
	gone := 0
	for text := range h.counts {
		if h.last[text] < below {
			delete(h.counts, text)
			gone++
		}
	}
	return gone
}

// Promises 9.2, P9.2 and P9.5, on drawn calls.
func TestDrawnJoiners(t *testing.T) {
	r := rand.New(rand.NewSource(92))
	late, gone := 0, 0
	for range 1500 {
		on, others := drawKeys(r, 2, 2)
		low, base := r.Intn(13)-6, drawBase(r)
		high := low + r.Intn(8)
		j := newJoiner(t, on, others, low, high)
		now, given := -maxTime, tally{}
		var sides [2][]api.Change
		held := [2]*heldModel{newHeld(), newHeld()}
		what := fmt.Sprint(on, others, low, high)
		for range 40 {
			if r.Intn(5) == 0 {
				now = max(now, min(end, base-12+r.Intn(20)))
				what += fmt.Sprint("; mark ", now)
				if l, e := j.Mark(now); len(l) > 0 || e != api.OK {
					t.Fatalf("%s: %d", what, e)
				}
				gone += held[0].letGo(now-high) + held[1].letGo(now+low)
			} else {
				c := api.Change{Time: base + r.Intn(25) - 12, Row: drawRow(r, 2), N: []int{1, 1, 1, 2, -1, -3}[r.Intn(6)]}
				at := r.Intn(2)
				what += fmt.Sprint("; ", at, " ", shownChanges([]api.Change{c}))
				l, e := []tell{j.Left, j.Right}[at](c)
				if c.Time < now {
					late++
					if e != api.ErrLate || len(l) > 0 {
						t.Fatalf("%s: %d", what, e)
					}
					continue
				}
				if e != api.OK || !inOrder(l) {
					t.Fatalf("%s: %q, %d", what, shownChanges(l), e)
				}
				sides[at] = append(sides[at], c)
				held[at].tell(c)
				given.addAll(l)
			}
			if a, b := j.Held(); a != len(held[0].counts) || b != len(held[1].counts) {
				t.Fatalf("%s: Held = %d, %d, not %d, %d", what, a, b, len(held[0].counts), len(held[1].counts))
			}
			if want := intervalTally(on, others, low, high, sides[0], sides[1]); given.shown() != want.shown() {
				t.Fatalf("%s: %s, not %s", what, given.shown(), want.shown())
			}
		}
	}
	if late < 100 || gone < 100 {
		t.Errorf("%d were late, %d let go", late, gone)
	}
}

// inOrder reports whether l is changes that ascend by Row, then Time.
func inOrder(l []api.Change) bool {
	wrong := func(c api.Change) bool { return !bag.ValidChange(c) }
	return !slices.ContainsFunc(l, wrong) && slices.IsSortedFunc(l, func(a, b api.Change) int {
		if c := row.Compare(a.Row, b.Row); c != 0 {
			return c
		}
		return a.Time - b.Time
	})
}

// eventsInOrder reports whether events ascend by Time, then Row.
func eventsInOrder(l []api.Event) bool {
	return slices.IsSortedFunc(l, func(a, b api.Event) int {
		if a.Time != b.Time {
			return a.Time - b.Time
		}
		return row.Compare(a.Row, b.Row)
	})
}

// drawEvents draws events of a width.
func drawEvents(r *rand.Rand, n, base, width int) []api.Event {
	l := make([]api.Event, n)
	for i := range l {
		l[i] = api.Event{Time: base + r.Intn(17) - 8, Row: drawRow(r, width)}
	}
	return l
}

// asTally counts events.
func asTally(l []api.Event) tally {
	y := tally{}
	for _, x := range l {
		y.add(x.Time, x.Row, 1)
	}
	return y
}

// asChanges returns events as changes, each once.
func asChanges(l []api.Event) []api.Change {
	var changes []api.Change
	for _, x := range l {
		changes = append(changes, api.Change{Time: x.Time, Row: x.Row, N: 1})
	}
	return changes
}

// Promises 9.1 (Intervals) and P9.2, on drawn events: in whatever order a joiner is told them, it gives what Intervals returns.
func TestDrawnIntervals(t *testing.T) {
	r := rand.New(rand.NewSource(91))
	for range 1500 {
		wide, width := r.Intn(4), r.Intn(4)
		on, others := drawKeys(r, wide, width)
		low, base := r.Intn(13)-6, drawBase(r)
		high := low + r.Intn(8)
		left, right := drawEvents(r, r.Intn(18), base, wide), drawEvents(r, r.Intn(18), base, width)
		want := intervalTally(on, others, low, high, asChanges(left), asChanges(right)).shown()
		what := fmt.Sprint(on, others, low, high, ": ", shownEvents(left), " with ", shownEvents(right))
		l, e := Intervals(on, others, low, high, left, right)
		if asTally(l).shown() != want || e != api.OK || !eventsInOrder(l) {
			t.Fatalf("%s: %q, %d, not %s", what, shownEvents(l), e, want)
		}
		j, given := newJoiner(t, on, others, low, high), tally{}
		for _, i := range r.Perm(len(left) + len(right)) {
			call, list := j.Left, left
			if i >= len(left) {
				call, list, i = j.Right, right, i-len(left)
			}
			l, e := call(api.Change{Time: list[i].Time, Row: list[i].Row, N: 1})
			if e != api.OK {
				t.Fatalf("%s: %d", what, e)
			}
			given.addAll(l)
		}
		if given.shown() != want {
			t.Fatalf("%s: a joiner gives %s, not %s", what, given.shown(), want)
		}
	}
}

// versionTally tells the version join of events by the chapter's words.
func versionTally(on, others []int, width int, l, r []api.Event) tally {
	y := tally{}
	for _, a := range l {
		newest := api.Event{Time: -2 * maxTime, Row: make(api.Row, width)}
		for _, b := range r {
			if !sameKey(on, others, a.Row, b.Row) || b.Time > a.Time || b.Time < newest.Time {
				continue
			}
			if b.Time > newest.Time || row.Compare(b.Row, newest.Row) > 0 {
				newest = b
			}
		}
		y.add(a.Time, both(a.Row, newest.Row), 1)
	}
	return y
}

// Promises 9.1 (Versions), 9.3 and P9.3, on drawn events and marks.
func TestDrawnVersions(t *testing.T) {
	r := rand.New(rand.NewSource(93))
	late := 0
	for range 2500 {
		wide, width := r.Intn(4), r.Intn(4)
		on, others := drawKeys(r, wide, width)
		base := drawBase(r)
		v, now := newVersioner(t, on, others, width), -maxTime
		var sides [2][]api.Event
		var told []api.Event
		what := fmt.Sprint(on, others, width)
		for step := range 40 {
			if r.Intn(4) == 0 || step == 39 {
				was := now
				now = max(now, min(end, base-9+r.Intn(15)))
				if step == 39 {
					now = end
				}
				what += fmt.Sprint("; mark ", now)
				l, e := v.Mark(now)
				if e != api.OK || !eventsInOrder(l) || len(l) > 0 && (l[0].Time < was || l[len(l)-1].Time >= now) {
					t.Fatalf("%s: %q, %d", what, shownEvents(l), e)
				}
				told = append(told, l...)
				if n := len(asBelow(sides[0], now)); n != len(told) {
					t.Fatalf("%s: %d are told, not %d", what, len(told), n)
				}
				continue
			}
			at := r.Intn(2)
			x := drawEvents(r, 1, base, []int{wide, width}[at])[0]
			what += fmt.Sprint("; ", at, " ", shownEvents([]api.Event{x}))
			e := []func(api.Event) api.Errno{v.Left, v.Right}[at](x)
			if x.Time < now {
				late++
				if e != api.ErrLate {
					t.Fatalf("%s: %d", what, e)
				}
				continue
			}
			if e != api.OK {
				t.Fatalf("%s: %d", what, e)
			}
			sides[at] = append(sides[at], x)
		}
		want := versionTally(on, others, width, sides[0], sides[1]).shown()
		l, e := Versions(on, others, width, sides[0], sides[1])
		if asTally(told).shown() != want || asTally(l).shown() != want || e != api.OK || !eventsInOrder(l) {
			t.Fatalf("%s: %q and %q, %d, not %s", what, shownEvents(told), shownEvents(l), e, want)
		}
	}
	if late < 100 {
		t.Errorf("%d were late", late)
	}
}

// asBelow returns the events below a mark.
func asBelow(l []api.Event, m int) []api.Event {
	return slices.DeleteFunc(slices.Clone(l), func(x api.Event) bool { return x.Time >= m })
}

// outerBag tells the outer join of bags by the chapter's words.
func outerBag(kind int, on, others []int, wide, width int, l, r api.Bag) api.Bag {
	var items []api.Change
	matched := map[string]bool{}
	for _, a := range l {
		for _, b := range r {
			if sameKey(on, others, a.Row, b.Row) {
				items = append(items, api.Change{Row: both(a.Row, b.Row), N: a.N * b.N})
				matched["l"+row.Text(a.Row)], matched["r"+row.Text(b.Row)] = true, true
			}
		}
	}
	for _, a := range l {
		if (kind == 1 || kind == 3) && !matched["l"+row.Text(a.Row)] {
			items = append(items, api.Change{Row: both(a.Row, make(api.Row, width)), N: a.N})
		}
	}
	for _, b := range r {
		if (kind == 2 || kind == 3) && !matched["r"+row.Text(b.Row)] {
			items = append(items, api.Change{Row: both(make(api.Row, wide), b.Row), N: b.N})
		}
	}
	whole, e := bag.Apply(nil, items)
	if e != api.OK {
		panic("no bag")
	}
	return whole
}

// Promises 9.1 (Outer), 9.4 and P9.4, on drawn changes.
func TestDrawnKeepers(t *testing.T) {
	r := rand.New(rand.NewSource(94))
	for range 1500 {
		kind, wide, width := r.Intn(4), r.Intn(4), r.Intn(4)
		on, others := drawKeys(r, wide, width)
		k := newKeeper(t, kind, on, others, wide, width)
		var sides [2]api.Bag
		var given api.Bag
		what := fmt.Sprint(kind, on, others, wide, width)
		for range 30 {
			at := r.Intn(2)
			c := api.Change{Time: r.Intn(9) - 4, Row: drawRow(r, []int{wide, width}[at]), N: []int{1, 1, 2, 3, -1, -1, -2}[r.Intn(7)]}
			what += fmt.Sprint("; ", at, " ", shownChanges([]api.Change{c}))
			l, e := []tell{k.Left, k.Right}[at](c)
			next, _ := bag.Apply(sides[at], []api.Change{c})
			if !bag.Whole(next) {
				if e != api.ErrState || len(l) > 0 {
					t.Fatalf("%s: %d", what, e)
				}
				continue
			}
			sides[at] = next
			netted, _ := bag.Netted(l)
			otherTime := func(x api.Change) bool { return x.Time != c.Time }
			if e != api.OK || shownChanges(l) != shownChanges(netted) || slices.ContainsFunc(l, otherTime) {
				t.Fatalf("%s: %q, %d", what, shownChanges(l), e)
			}
			given, _ = bag.Apply(given, l)
			want := outerBag(kind, on, others, wide, width, sides[0], sides[1])
			now, e := k.Now()
			if !bag.Same(given, want) || !bag.Same(now, want) || e != api.OK {
				t.Fatalf("%s: %q and %q, %d, not %q", what, shownBag(given), shownBag(now), e, shownBag(want))
			}
		}
		want := outerBag(kind, on, others, wide, width, sides[0], sides[1])
		if b, e := Outer(kind, on, others, wide, width, sides[0], sides[1]); !bag.Same(b, want) || e != api.OK {
			t.Fatalf("%s: Outer = %q, %d, not %q", what, shownBag(b), e, shownBag(want))
		}
	}
}

// Promise P9.4: full is left and right, and left without nulls is inner.
func TestKinds(t *testing.T) {
	r := rand.New(rand.NewSource(95))
	for range 1000 {
		on, others := drawKeys(r, 2, 2)
		var sides [2]api.Bag
		for range r.Intn(12) {
			at := r.Intn(2)
			sides[at], _ = bag.Sum(sides[at], api.Bag{{Row: drawRow(r, 2), N: 1 + r.Intn(3)}})
		}
		var kinds [4]api.Bag
		for kind := range kinds {
			kinds[kind], _ = Outer(kind, on, others, 2, 2, sides[0], sides[1])
		}
		sum, _ := bag.Sum(kinds[1], kinds[2])
		if whole, _ := bag.Sum(kinds[3], kinds[0]); !bag.Same(whole, sum) {
			t.Fatalf("%v with %v by %v, %v: full and inner %q, left and right %q", sides[0], sides[1], on, others, shownBag(whole), shownBag(sum))
		}
		partners := slices.DeleteFunc(slices.Clone(kinds[1]), func(item api.Item) bool { return strings.HasSuffix(row.Text(item.Row), ",~,~") })
		pairs := slices.DeleteFunc(slices.Clone(kinds[0]), func(item api.Item) bool { return strings.HasSuffix(row.Text(item.Row), ",~,~") })
		if !bag.Same(partners, pairs) || !bag.Within(kinds[0], kinds[1]) {
			t.Fatalf("%v with %v by %v, %v: left %q, inner %q", sides[0], sides[1], on, others, shownBag(kinds[1]), shownBag(kinds[0]))
		}
	}
}
