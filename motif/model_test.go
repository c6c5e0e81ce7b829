package motif

import (
	"fmt"
	"math/rand"
	"slices"
	"testing"

	"tidewright/api"
	"tidewright/row"
)

// clause is a condition, as an expression and as it is meant: of a row, and those of the stages before it, of which there are at least so many.
type clause struct {
	text string
	from int
	is   func(r api.Row, before []api.Row) bool
}

// both reports whether two values are not null, and as told.
func both(a, b api.Value, is func(a, b int) bool) bool {
	return a.Kind == api.VInt && b.Kind == api.VInt && is(a.N, b.N)
}

// clauses are conditions over wide, the stages being a, b, c and d.
func clauses() []clause {
	above := func(a, b int) bool { return a > b }
	same := func(a, b int) bool { return a == b }
	return []clause{
		{"1", 0, func(r api.Row, _ []api.Row) bool { return true }},
		{"v > 1", 0, func(r api.Row, _ []api.Row) bool { return both(r[0], num(1), above) }},
		{"v < 2", 0, func(r api.Row, _ []api.Row) bool { return both(num(2), r[0], above) }},
		{"v", 0, func(r api.Row, _ []api.Row) bool { return r[0].N != 0 }},
		{"null(v) or v = 3", 0, func(r api.Row, _ []api.Row) bool { return r[0].Kind == api.VNull || r[0].N == 3 }},
		{`s = "x"`, 0, func(r api.Row, _ []api.Row) bool { return r[1] == word("x") }},
		{"null", 0, func(r api.Row, _ []api.Row) bool { return false }},
		{"v > a.v", 1, func(r api.Row, b []api.Row) bool { return both(r[0], b[0][0], above) }},
		{"v = a.v", 1, func(r api.Row, b []api.Row) bool { return both(r[0], b[0][0], same) }},
		{`v = a.v or s = "y"`, 1, func(r api.Row, b []api.Row) bool { return both(r[0], b[0][0], same) || r[1] == word("y") }},
		{"s != a.s", 1, func(r api.Row, b []api.Row) bool {
			return r[1].Kind != api.VNull && b[0][1].Kind != api.VNull && r[1] != b[0][1]
		}},
		{"v >= b.v", 2, func(r api.Row, b []api.Row) bool { return both(r[0], b[1][0], above) || both(r[0], b[1][0], same) }},
		{"a.v + b.v > v", 2, func(r api.Row, b []api.Row) bool {
			return b[0][0].Kind == api.VInt && both(num(b[0][0].N+b[1][0].N), r[0], above) && b[1][0].Kind == api.VInt
		}},
		{"null(b.s) and v > a.v", 2, func(r api.Row, b []api.Row) bool {
			return b[1][1].Kind == api.VNull && both(r[0], b[0][0], above)
		}},
		{"v > c.v or v = a.v", 3, func(r api.Row, b []api.Row) bool {
			return both(r[0], b[2][0], above) || both(r[0], b[0][0], same)
		}},
	}
}

// model is a pattern by the chapter's words, with its conditions as they are meant.
type model struct {
	api.Pattern
	cond, unless []clause // that without a text is none
}

// drawModel draws a pattern.
func drawModel(r *rand.Rand) model {
	m := model{Pattern: api.Pattern{Within: r.Intn(9), Skip: r.Intn(3)}}
	all := clauses()
	draw := func(stage int) clause {
		for {
			if c := all[r.Intn(len(all))]; c.from <= stage {
				return c
			}
		}
	}
	for i := range 1 + r.Intn(4) {
		stage := api.Stage{Name: string(rune('a' + i)), Follow: 1 + r.Intn(3)}
		m.cond, m.unless = append(m.cond, draw(i)), append(m.unless, clause{})
		if i == 0 {
			stage.Follow = api.FNext
		} else if r.Intn(3) == 0 {
			m.unless[i] = draw(i)
		}
		stage.Cond, stage.Unless = m.cond[i].text, m.unless[i].text
		m.Stages = append(m.Stages, stage)
	}
	return m
}

// drawEvent draws an event at one of few times, with one of few rows.
func drawEvent(r *rand.Rand, base, times int) api.Event {
	x := api.Event{Time: base + r.Intn(times), Row: api.Row{num(r.Intn(5)), {}}}
	if r.Intn(9) == 0 {
		x.Row[0] = api.Value{}
	}
	if n := r.Intn(3); n > 0 {
		x.Row[1] = word(string(rune('w' + n)))
	}
	return x
}

// isMatch reports whether the events at places of an ordered list are a match.
func (m model) isMatch(l []api.Event, at []int) bool {
	var before []api.Row
	for k, place := range at {
		if !m.cond[k].is(l[place].Row, before) {
			return false
		}
		if k > 0 {
			if m.Stages[k].Follow == api.FNext && place != at[k-1]+1 {
				return false
			}
			for _, x := range l[at[k-1]+1 : place] {
				if m.Stages[k].Follow == api.FThen && m.cond[k].is(x.Row, before) || m.unless[k].text != "" && m.unless[k].is(x.Row, before) {
					return false
				}
			}
		}
		before = append(before, l[place].Row)
	}
	return l[at[len(at)-1]].Time-l[at[0]].Time <= m.Within
}

// tuples returns all ascending places from one on, so many of them, below n.
func tuples(from, count, n int) [][]int {
	if count == 0 {
		return [][]int{nil}
	}
	var l [][]int
	for at := from; at < n; at++ {
		for _, rest := range tuples(at+1, count-1, n) {
			l = append(l, append([]int{at}, rest...))
		}
	}
	return l
}

// all returns the matches of an ordered list, before any is left out.
func (m model) all(l []api.Event) [][]int {
	var found [][]int
	for _, at := range tuples(0, len(m.Stages), len(l)) {
		if m.isMatch(l, at) {
			found = append(found, at)
		}
	}
	return found
}

// kept returns the matches that are not left out.
func (m model) kept(all [][]int) [][]int {
	var l [][]int
	for _, match := range all {
		out := func(other []int) bool {
			return m.Skip == 1 && match[0] <= other[len(other)-1] || m.Skip == 2 && match[0] == other[0]
		}
		if !slices.ContainsFunc(l, out) {
			l = append(l, match)
		}
	}
	return l
}

// ordered returns the indexes of events in their order.
func ordered(l []api.Event) []int {
	var at []int
	for i := range l {
		at = append(at, i)
	}
	for i := range at { // by insertion, as the chapter tells it
		for j := i; j > 0; j-- {
			a, b := l[at[j-1]], l[at[j]]
			if a.Time < b.Time || a.Time == b.Time && row.Compare(a.Row, b.Row) <= 0 {
				break
			}
			at[j-1], at[j] = at[j], at[j-1]
		}
	}
	return at
}

// placed returns the events at indexes.
func placed(l []api.Event, at []int) []api.Event {
	var out []api.Event
	for _, i := range at {
		out = append(out, l[i])
	}
	return out
}

// Promises 8.1, P8.2 and P8.4, on drawn patterns and events.
func TestDrawnMatches(t *testing.T) {
	r := rand.New(rand.NewSource(81))
	found := 0
	for range 3000 {
		m := drawModel(r)
		var l []api.Event
		for range r.Intn(12) {
			l = append(l, drawEvent(r, 0, 10))
		}
		order := ordered(l)
		if got, e := Order(wide(), l); !slices.Equal(got, order) || e != api.OK {
			t.Fatalf("Order(%v) = %v, %d", l, got, e)
		}
		all := m.all(placed(l, order))
		var want [][]int
		for _, match := range m.kept(all) {
			var at []int
			for _, place := range match {
				at = append(at, order[place])
			}
			want = append(want, at)
		}
		found += len(want)
		got, e := Matches(wide(), m.Pattern, l)
		if fmt.Sprint(got) != fmt.Sprint(want) || e != api.OK {
			t.Fatalf("Matches(%q, %v) = %v, %d, not %v", Format(m.Pattern), l, got, e, want)
		}
		for range 20 {
			at := make([]int, len(m.Stages))
			for i := range at {
				at[i] = r.Intn(len(l) + 1)
			}
			places := make([]int, len(at))
			for i, index := range at {
				places[i] = slices.Index(order, index)
			}
			is := !slices.Contains(places, -1) && slices.IsSorted(places) && len(slices.Compact(slices.Clone(places))) == len(places) && m.isMatch(placed(l, order), places)
			if IsMatch(wide(), m.Pattern, l, at) != is {
				t.Fatalf("IsMatch(%q, %v, %v) is not %t", Format(m.Pattern), l, at, is)
			}
		}
		apart(t, m, order, got)
	}
	if found < 2500 {
		t.Errorf("only %d matches", found)
	}
}

// apart checks that matches share no more than their skip allows.
func apart(t *testing.T, m model, order []int, l [][]int) {
	t.Helper()
	place := func(index int) int { return slices.Index(order, index) }
	for i, match := range l {
		if i == 0 || m.Skip == 0 {
			continue
		}
		before := l[i-1]
		if m.Skip == 1 && place(match[0]) <= place(before[len(before)-1]) || m.Skip == 2 && match[0] == before[0] {
			t.Fatalf("%q, %v: %v behind %v", Format(m.Pattern), order, match, before)
		}
	}
}

// history is what a seeker was told, by the chapter's words.
type history struct {
	model
	mark   int
	events []api.Event
	told   int // matches
}

// decided returns all matches that are told up to a mark, in the order in which they are.
func (h *history) decided(mark int) [][]int {
	l := placed(h.events, ordered(h.events))
	var below []api.Event
	for _, x := range l {
		if x.Time < mark {
			below = append(below, x)
		}
	}
	all := h.all(below)
	if h.Skip == 0 {
		slices.SortStableFunc(all, func(a, b []int) int { return a[len(a)-1] - b[len(b)-1] })
		return all
	}
	var out [][]int
	for _, match := range h.kept(all) {
		if mark > l[match[0]].Time+h.Within || mark == end {
			out = append(out, match)
		}
	}
	return out
}

func (h *history) add(x api.Event) api.Errno {
	switch {
	case x.Time < h.mark:
		return api.ErrLate
	case len(h.events) == 40:
		return api.ErrLimit
	}
	h.events = append(h.events, x)
	return api.OK
}

func (h *history) to(mark int) ([][]api.Event, api.Errno) {
	if mark < h.mark {
		return nil, api.ErrRange
	}
	l := placed(h.events, ordered(h.events))
	h.mark = mark
	var out [][]api.Event
	all := h.decided(mark)
	for _, match := range all[h.told:] {
		out = append(out, placed(l, match))
	}
	h.told = len(all)
	return out, api.OK
}

// Promises 8.2, P8.3 and P8.5, on drawn calls. With late events, marks that go back, and restored from the texts on the way.
func TestDrawnSeekers(t *testing.T) {
	r := rand.New(rand.NewSource(82))
	found := 0
	for range 2000 {
		m := drawModel(r)
		h := &history{model: m, mark: -maxTime}
		k := begin(t, wide(), m.Pattern)
		base := []int{0, 0, -maxTime, maxTime - 39}[r.Intn(4)]
		now := base
		for len(h.events) < 14 {
			now += r.Intn(3)
			for range r.Intn(4) {
				x := drawEvent(r, now-1, 6)
				x.Time = min(max(x.Time, -maxTime), maxTime)
				if e, want := k.Add(x), h.add(x); e != want {
					t.Fatalf("%q: Add(%v) = %d, not %d", Format(m.Pattern), x, e, want)
				}
			}
			if now > maxTime {
				break
			}
			if r.Intn(2) == 0 {
				found += together(t, k, h, max(-maxTime, now-r.Intn(3)))
			}
			if r.Intn(3) == 0 {
				q := begin(t, wide(), m.Pattern)
				if e := q.Restore(k.Text()); e != api.OK || q.Text() != k.Text() {
					t.Fatalf("Restore(%q) = %d: %q", k.Text(), e, q.Text())
				}
				k = q
			}
		}
		found += together(t, k, h, end)
		whole, e := Matches(wide(), m.Pattern, h.events)
		if len(whole) != h.told || e != api.OK {
			t.Fatalf("%q of %v: %d told, not %v", Format(m.Pattern), h.events, h.told, whole)
		}
	}
	if found < 2500 {
		t.Errorf("only %d matches", found)
	}
}

// together goes to a mark with both, and returns how many matches were told.
func together(t *testing.T, k *Seeker, h *history, mark int) int {
	t.Helper()
	text := k.Text()
	l, e := k.Mark(mark)
	want, f := h.to(mark)
	if shown(l) != shown(want) || e != f || k.Now() != h.mark {
		t.Fatalf("%q: Mark(%d) = %q, %d, not %q, %d", text, mark, shown(l), e, shown(want), f)
	}
	return len(l)
}
