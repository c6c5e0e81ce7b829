package pane

import (
	"fmt"
	"math/rand"
	"slices"
	"testing"

	"tidewright/api"
	"tidewright/bag"
	"tidewright/row"
)

// model is a group of windows by the chapter's words, with rows of one number, each of them by itself.
type model struct {
	Setup
	mark int
	l    []*held // ascending
}

// held is a window of a model.
type held struct {
	w         api.Window
	rows      []int
	next, had int
	gave      []api.Pane // one, or none
}

func (m *model) order() {
	slices.SortFunc(m.l, func(a, b *held) int { return compare(a.w.From, b.w.From, a.w.To, b.w.To) })
}

func compare(l ...int) int {
	for i := 0; i < len(l); i += 2 {
		if l[i] != l[i+1] {
			return (l[i] - l[i+1]) / max(l[i]-l[i+1], l[i+1]-l[i])
		}
	}
	return 0
}

// windows are those of a time, ascending.
func (m *model) windows(time int) []api.Window {
	size, step := m.Spec.Size, m.Spec.Step
	switch m.Spec.Kind {
	case api.WGlobal:
		return []api.Window{window(-maxTime, maxTime+1)}
	case api.WSession:
		return []api.Window{window(time, time+m.Spec.Gap)}
	case api.WTumbling:
		step = size
	}
	var l []api.Window
	for from := time - size + 1; from <= time; from++ {
		if (from-m.Spec.Shift)%step == 0 {
			l = append(l, window(from, from+size))
		}
	}
	return l
}

func (m *model) gone(w api.Window) bool { return w.To+m.Lateness <= m.mark }

// merged returns the windows that are there that merge with w, and what they merge to.
func (m *model) merged(w api.Window) ([]*held, api.Window) {
	var parts []*held
	for again := true; again; {
		again = false
		for _, h := range m.l {
			if h.w.From < w.To && w.From < h.w.To && !slices.Contains(parts, h) {
				parts, again = append(parts, h), true
				w = window(min(w.From, h.w.From), max(w.To, h.w.To))
			}
		}
	}
	slices.SortFunc(parts, func(a, b *held) int { return compare(a.w.From, b.w.From) })
	return parts, w
}

// find returns a window that is there, or nil.
func (m *model) find(w api.Window) *held {
	for _, h := range m.l {
		if h.w == w {
			return h
		}
	}
	return nil
}

func (m *model) back(h *held) []api.Pane {
	if m.Mode != api.MRetract {
		return nil
	}
	var out []api.Pane
	for _, x := range h.gave {
		x.Back = true
		out = append(out, x)
	}
	h.gave = nil
	return out
}

func (m *model) fire(h *held, kind int) []api.Pane {
	out := m.back(h)
	if len(h.rows) == 0 {
		return out
	}
	sum := 0
	for _, v := range h.rows {
		sum += v
	}
	x := api.Pane{Window: h.w, Kind: kind, Number: h.next, Row: api.Row{num(len(h.rows)), num(sum)}}
	h.gave = []api.Pane{x}
	h.next++
	h.had = 0
	if m.Mode == api.MDiscard {
		h.rows = nil
	}
	return append(out, x)
}

// count returns how often v is in rows.
func count(rows []int, v int) int {
	n := 0
	for _, x := range rows {
		if x == v {
			n++
		}
	}
	return n
}

func (m *model) add(time, v, n int) ([]api.Pane, api.Errno) {
	var open []api.Window
	for _, w := range m.windows(time) {
		to := w
		if m.Spec.Kind == api.WSession {
			_, to = m.merged(w)
		}
		if !m.gone(to) {
			open = append(open, w)
		}
	}
	if len(open) == 0 {
		return nil, api.ErrLate
	}
	for _, w := range open {
		there := 0
		if m.Spec.Kind == api.WSession {
			parts, _ := m.merged(w)
			for _, h := range parts {
				there += count(h.rows, v)
			}
		} else if h := m.find(w); h != nil {
			there = count(h.rows, v)
		}
		if there+n < 0 {
			return nil, api.ErrState
		}
	}
	var out []api.Pane
	for _, w := range open {
		to := w
		if m.Spec.Kind == api.WSession {
			out, to = append(out, m.merge(w)...), m.to(w)
		}
		h := m.find(to)
		if h == nil {
			h = &held{w: to}
			m.l = append(m.l, h)
			m.order()
		}
		out = append(out, m.put(h, v, n)...)
	}
	return out, api.OK
}

func (m *model) to(w api.Window) api.Window {
	_, to := m.merged(w)
	return to
}

// merge merges the sessions that are there and touch w, if they do not merge to one of them, and returns what they give back.
func (m *model) merge(w api.Window) []api.Pane {
	parts, to := m.merged(w)
	if len(parts) == 0 || m.find(to) != nil {
		return nil
	}
	whole := &held{w: to}
	var out []api.Pane
	for _, h := range parts {
		out = append(out, m.back(h)...)
		whole.rows = append(whole.rows, h.rows...)
		whole.had += h.had
		m.l = slices.DeleteFunc(m.l, func(x *held) bool { return x == h })
	}
	m.l = append(m.l, whole)
	m.order()
	return out
}

func (m *model) put(h *held, v, n int) []api.Pane {
	for range n {
		h.rows = append(h.rows, v)
	}
	for range -n {
		i := slices.Index(h.rows, v)
		h.rows = slices.Delete(h.rows, i, i+1)
	}
	h.had += max(n, 1)
	if h.w.To <= m.mark || m.mark == end {
		return m.fire(h, api.PLate)
	}
	if m.Early > 0 && h.had >= m.Early {
		return m.fire(h, api.PEarly)
	}
	return nil
}

func (m *model) goTo(mark int) []api.Pane {
	if mark == m.mark {
		return nil
	}
	var due []*held
	for _, h := range m.l {
		if h.w.To > m.mark && (h.w.To <= mark || mark == end) {
			due = append(due, h)
		}
	}
	slices.SortFunc(due, func(a, b *held) int { return compare(a.w.To, b.w.To, a.w.From, b.w.From) })
	m.mark = mark
	var out []api.Pane
	for _, h := range due {
		out = append(out, m.fire(h, api.POn)...)
	}
	m.l = slices.DeleteFunc(m.l, func(h *held) bool { return m.gone(h.w) })
	return out
}

// check holds a group against the model.
func (m *model) check(t *testing.T, p *Panes, what string) {
	t.Helper()
	var windows []api.Window
	for _, h := range m.l {
		windows = append(windows, h.w)
		var rows []api.Row
		for _, v := range h.rows {
			rows = append(rows, api.Row{num(v)})
		}
		want, _ := bag.Of(rows)
		if b, e := p.Contents(h.w); !bag.Same(b, want) || e != api.OK {
			t.Fatalf("%s: Contents(%v) = %v, %d, not %v", what, h.w, b, e, want)
		}
		r, e := p.Given(h.w)
		if len(h.gave) == 0 && (len(r) > 0 || e != api.ErrNone) || len(h.gave) > 0 && (row.Compare(r, h.gave[0].Row) != 0 || e != api.OK) {
			t.Fatalf("%s: Given(%v) = %v, %d, not %v", what, h.w, r, e, h.gave)
		}
	}
	if !slices.Equal(p.Windows(), windows) || p.Now() != m.mark {
		t.Fatalf("%s: at %d %v, not at %d %v", what, p.Now(), p.Windows(), m.mark, windows)
	}
}

// drawSetup draws a setup with windows of a few times.
func drawSetup(r *rand.Rand) Setup {
	specs := []api.Spec{tumbling(10), {Kind: api.WTumbling, Size: 4, Shift: 3}, sliding(10, 5), {Kind: api.WSliding, Size: 9, Step: 4, Shift: 2}, session(1), session(3), session(6), global()}
	return counted(specs[r.Intn(len(specs))], 1+r.Intn(3), []int{0, 1, 6, 30}[r.Intn(4)], []int{0, 0, 1, 2, 5}[r.Intn(5)])
}

// drawBase draws a time around which others are drawn.
func drawBase(r *rand.Rand) int {
	return []int{0, 0, 0, maxTime - 20, -maxTime + 25}[r.Intn(5)]
}

// Promises 7.1, 7.2, P7.2 and P7.4, on drawn calls.
func TestModel(t *testing.T) {
	r := rand.New(rand.NewSource(71))
	for range 1500 {
		s, base := drawSetup(r), drawBase(r)
		p, m := begin(t, s), &model{Setup: s, mark: -maxTime}
		var all []api.Pane
		var log []string
		for range 60 {
			var got, want []api.Pane
			var e, f api.Errno
			if r.Intn(4) == 0 {
				to := max(-maxTime, min(end, max(m.mark, base-25)+r.Intn(9)))
				if r.Intn(30) == 0 {
					to = end
				}
				log = append(log, fmt.Sprint("mark ", to))
				got, e = p.Mark(to)
				want = m.goTo(to)
			} else {
				time, v, n := base+r.Intn(46)-25, r.Intn(3), []int{1, 1, 1, 2, 3, -1, -1, -2}[r.Intn(8)]
				log = append(log, fmt.Sprint("add ", time, v, n))
				got, e = p.Add(min(time, maxTime), api.Row{num(v)}, n)
				want, f = m.add(min(time, maxTime), v, n)
			}
			if shown(got) != shown(want) || e != f {
				t.Fatalf("%+v, %q: %q, %d, not %q, %d", s, log, shown(got), e, shown(want), f)
			}
			m.check(t, p, fmt.Sprintf("%+v, %q", s, log))
			all = append(all, got...)
			if _, e := Final(all); e != api.OK {
				t.Fatalf("%+v, %q: Final = %d", s, log, e)
			}
			if r.Intn(5) == 0 {
				q, text := begin(t, s), p.Text()
				if e := q.Restore(text); e != api.OK || q.Text() != text {
					t.Fatalf("%+v, %q: Restore(%q) = %d", s, log, text, e)
				}
				p = q
			}
		}
	}
}

// Promise P7.5: in MDiscard the counts of a window's panes add up.
func TestSums(t *testing.T) {
	r := rand.New(rand.NewSource(75))
	for range 500 {
		s, base := drawSetup(r), drawBase(r)
		s.Mode = api.MDiscard
		if s.Spec.Kind == api.WSession {
			continue
		}
		p := begin(t, s)
		told, had := map[api.Window]int{}, map[api.Window]int{}
		for range 50 {
			time, n := base+r.Intn(40)-20, 1+r.Intn(3)
			for _, w := range (&model{Setup: s}).windows(time) {
				if w.To+s.Lateness > p.Now() {
					had[w] += n
				}
			}
			l, _ := p.Add(time, asRow("1"), n)
			k, _ := p.Mark(max(p.Now(), min(end, max(base-20, p.Now())+r.Intn(4)-1)))
			for _, x := range append(l, k...) {
				told[x.Window] += x.Row[0].N
			}
		}
		l, _ := p.Mark(end)
		for _, x := range l {
			told[x.Window] += x.Row[0].N
		}
		if fmt.Sprint(told) != fmt.Sprint(had) {
			t.Fatalf("%+v: %v, not %v", s, told, had)
		}
	}
}

// Promise P7.3: in the end the panes that are left have the windows and rows of the batch.
func TestAsBatch(t *testing.T) {
	r := rand.New(rand.NewSource(73))
	late := 0
	for range 3000 {
		s, base := drawSetup(r), drawBase(r)
		s.Lateness = []int{0, 3, 10, 40}[r.Intn(4)]
		if s.Mode == api.MDiscard || s.Mode == api.MAccumulate && s.Spec.Kind == api.WSession {
			s.Mode = api.MRetract
		}
		p := begin(t, s)
		var events []api.Event
		var all []api.Pane
		for range 30 {
			time, v := base+r.Intn(40)-20, r.Intn(3)
			if !onTime(p, time) {
				late++
				continue
			}
			event := api.Event{Time: time, Row: api.Row{num(v)}}
			events = append(events, event)
			l, e := p.Add(event.Time, event.Row, 1)
			if e != api.OK {
				t.Fatalf("%+v: Add(%v) = %d", s, event, e)
			}
			k, _ := p.Mark(max(p.Now(), min(maxTime, base-22+r.Intn(len(events)+1))))
			all = append(append(all, l...), k...)
		}
		l, _ := p.Mark(end)
		got, e := Final(append(all, l...))
		r.Shuffle(len(events), func(i, j int) { events[i], events[j] = events[j], events[i] })
		want, f := Batch(s, events)
		if e != api.OK || f != api.OK || !slices.EqualFunc(got, want, sameResult) {
			t.Fatalf("%+v, %v: %q, %d, not %q, %d", s, events, shown(got), e, shown(want), f)
		}
		for _, x := range want {
			if x.Kind != api.POn || x.Number != 0 || x.Back {
				t.Fatalf("Batch(%+v, %v) = %q", s, events, shown(want))
			}
		}
		if !slices.IsSortedFunc(got, ComparePanes) || !slices.IsSortedFunc(want, ComparePanes) {
			t.Fatalf("%q and %q are not sorted", shown(got), shown(want))
		}
	}
	if late == 0 {
		t.Error("no event was late")
	}
}

// onTime reports whether a time is late for none of its windows; for sessions, whether it is not below the mark less the lateness.
func onTime(p *Panes, time int) bool {
	if p.Spec.Kind == api.WSession {
		return time >= p.Now()-p.Lateness
	}
	gone := func(w api.Window) bool { return w.To+p.Lateness <= p.Now() }
	return !slices.ContainsFunc((&model{Setup: p.Setup}).windows(time), gone)
}

func sameResult(a, b api.Pane) bool {
	return a.Window == b.Window && row.Compare(a.Row, b.Row) == 0
}
