package pane

import (
	"slices"
	"strconv"
	"strings"
	"testing"

	"tidewright/api"
)

// grown returns a group with windows of many sorts: ended and not, that gave and that did not, emptied, with rows of several columns.
func grown(t *testing.T, spec api.Spec, mode, early int) *Panes {
	t.Helper()
	s := Setup{Spec: spec, Aggs: []api.Agg{{Kind: api.ACount}, {Kind: api.AGreatest, Column: 1}, {Kind: api.AMean}}, Columns: 2, Lateness: 25, Mode: mode, Early: early}
	p := begin(t, s)
	for i, text := range []string{`5,"a"`, `-5,"\n\x09\xff\\\""`, `~,~`, `7,7`} {
		p.Add(10*i+1, asRow(text), 1+i)
		p.Add(10*i+2, asRow(`1,"b"`), 1)
		p.Add(10*i+2, asRow(`1,"b"`), -1)
		p.Mark(8 * i)
	}
	p.Add(3, asRow(`5,"a"`), 1)
	p.Add(45, asRow(`5,"a"`), 1)
	p.Add(45, asRow(`5,"a"`), -1)
	return p
}

// goOn tells a group more, and returns what it gives, and what it is then.
func goOn(p *Panes) string {
	var text strings.Builder
	for i := range 40 {
		l, e := p.Add(i*i%60, asRow(`3,"c"`), i%3*2-1)
		text.WriteString(shown(l) + string(rune('A'+e)))
		l, e = p.Mark(20 + i)
		text.WriteString(shown(l) + string(rune('A'+e)))
	}
	l, _ := p.Mark(end)
	return text.String() + shown(l) + p.Text()
}

// Promises 7.2 and P7.4.
func TestRestore(t *testing.T) {
	for _, spec := range []api.Spec{tumbling(10), sliding(10, 3), session(4), session(15), global()} {
		for _, mode := range modes() {
			for _, early := range []int{0, 1, 3} {
				p := grown(t, spec, mode, early)
				text := p.Text()
				q := begin(t, p.Setup)
				q.Add(7, asRow("1,1"), 1) // what was there before is no more
				q.Mark(5)
				if e := q.Restore(text); e != api.OK || q.Text() != text || q.Now() != p.Now() {
					t.Fatalf("Restore(%q) = %d: %q", text, e, q.Text())
				}
				if got, want := goOn(q), goOn(p); got != want {
					t.Errorf("%q goes on with %q, not %q", text, got, want)
				}
				// A mark may go back by it.
				if e := p.Restore(text); e != api.OK || p.Now() != 24 || p.Text() != text {
					t.Errorf("Restore of what was = %d: %q", e, p.Text())
				}
			}
		}
	}
	p := begin(t, counted(tumbling(10), api.MRetract, 0, 0))
	for _, m := range []int{-maxTime, -3, 0, maxTime, end} {
		p.Mark(m)
		q := begin(t, p.Setup)
		if e := q.Restore(p.Text()); e != api.OK || q.Now() != m {
			t.Errorf("at %d: %d, %d", m, e, q.Now())
		}
	}
}

// Promise 7.2: contents whose text is longer than what is read of a bag at once.
func TestRestoreLong(t *testing.T) {
	p := begin(t, counted(tumbling(10), api.MRetract, 0, 0))
	for n := range api.MaxRows {
		p.Add(n%2, api.Row{{Kind: api.VText, S: strings.Repeat("\x00", 150) + strconv.Itoa(n)}}, 1+n)
	}
	q := begin(t, p.Setup)
	if e := q.Restore(p.Text()); e != api.OK || q.Text() != p.Text() || len(p.Text()) < 3*api.MaxText {
		t.Errorf("a text of %d bytes: %d", len(p.Text()), e)
	}
}

// Promise 7.2: other texts. Nothing changes with them.
func TestOtherTexts(t *testing.T) {
	p := grown(t, session(4), api.MRetract, 3)
	text := p.Text()
	q := begin(t, p.Setup)
	q.Mark(3)
	kept := q.Text()
	refused := func(what, text string) {
		t.Helper()
		if e := q.Restore(text); e != api.ErrSyntax || q.Text() != kept {
			t.Fatalf("%s: Restore(%q) = %d: %q", what, text, e, q.Text())
		}
	}
	for _, s := range []string{"", "x", "\n", text + "\n", text + "x", text + text, " " + text, strings.ReplaceAll(text, "\n", "\r\n")} {
		refused("another text", s)
	}
	for i := range text {
		refused("a beginning", text[:i])
		refused("an end", text[i+1:])
		for _, c := range []string{"", " ", "\n", "0", "7", "-", "x", "00", "\xff", "99999999999999999999"} {
			s := text[:i] + c + text[i+1:]
			if s == text {
				continue
			}
			// It may be the text of another group.
			if e := q.Restore(s); e == api.OK && q.Text() == s {
				q = begin(t, p.Setup)
				q.Mark(3)
			} else if e != api.ErrSyntax || q.Text() != kept {
				t.Fatalf("Restore(%q) = %d: %q", s, e, q.Text())
			}
		}
	}
	// The text of a group of another setup.
	for _, change := range []func(s *Setup){
		func(s *Setup) { s.Spec = session(5) },
		func(s *Setup) { s.Spec = tumbling(10) },
		func(s *Setup) { s.Aggs = s.Aggs[:2] },
		func(s *Setup) { s.Aggs = append(slices.Clone(s.Aggs), api.Agg{Kind: api.ACount}) },
		func(s *Setup) { s.Aggs = append(slices.Clone(s.Aggs[:2]), api.Agg{Kind: api.ASum}) },
		func(s *Setup) { s.Columns = 3 },
		func(s *Setup) { s.Lateness = 26 },
		func(s *Setup) { s.Mode = api.MAccumulate },
		func(s *Setup) { s.Early = 4 },
	} {
		s := p.Setup
		change(&s)
		refused("another setup", begin(t, s).Text())
		if e := begin(t, s).Restore(text); e != api.ErrSyntax {
			t.Errorf("the text in a group of the setup %+v: %d", s, e)
		}
	}
}

// Promise 7.2: texts in the form of those that there are, but of windows that no group has.
func TestForgedTexts(t *testing.T) {
	for _, x := range []struct {
		what    string
		s       Setup
		lines   string // behind those of the setup
		allowed bool
	}{
		{"nothing", counted(tumbling(10), api.MRetract, 5, 0), "7 0", true},
		{"a mark too small", counted(tumbling(10), api.MRetract, 5, 0), "-1000000000001 0", false},
		{"the greatest mark", counted(tumbling(10), api.MRetract, 5, 0), "1000000000001 0", true},
		{"a mark too great", counted(tumbling(10), api.MRetract, 5, 0), "1000000000002 0", false},
		{"fewer than no windows", counted(tumbling(10), api.MRetract, 5, 0), "7 -1", false},
		{"too few windows", counted(tumbling(10), api.MRetract, 5, 0), "7 2/0 10 0 0 0 0", false},
		{"too many windows", counted(tumbling(10), api.MRetract, 5, 0), "7 1/0 10 0 0 0 0/10 20 0 0 0 0", false},
		{"far too many windows", counted(tumbling(10), api.MRetract, 5, 0), "7 999999999999", false},
		{"two windows", counted(tumbling(10), api.MRetract, 5, 0), "7 2/0 10 0 0 0 0/10 20 0 0 0 1/2 5", true},
		{"windows in another order", counted(tumbling(10), api.MRetract, 5, 0), "7 2/10 20 0 0 0 0/0 10 0 0 0 0", false},
		{"a window twice", counted(tumbling(10), api.MRetract, 5, 0), "7 2/0 10 0 0 0 0/0 10 0 0 0 0", false},
		{"a window of another step", counted(tumbling(10), api.MRetract, 5, 0), "7 1/5 15 0 0 0 0", false},
		{"a window of another size", counted(tumbling(10), api.MRetract, 5, 0), "7 1/0 20 0 0 0 0", false},
		{"a window of no time", counted(tumbling(10), api.MRetract, 5, 0), "7 1/1000000000010 1000000000020 0 0 0 0", false},
		{"a window before all times", counted(tumbling(10), api.MRetract, 5, 0), "-1000000000000 1/-1000000000010 -1000000000000 0 0 0 0", false},
		{"the last window of a time", counted(sliding(10, 5), api.MRetract, 5, 0), "7 1/1000000000000 1000000000010 0 0 0 0", true},
		{"the first window of a time", counted(sliding(10, 5), api.MRetract, 5, 0), "-1000000000000 1/-1000000000005 -999999999995 0 0 0 0", true},
		{"another window than the global one", counted(global(), api.MRetract, 5, 0), "7 1/0 10 0 0 0 0", false},
		{"the global window", counted(global(), api.MRetract, 5, 0), "7 1/-1000000000000 1000000000001 0 0 0 0", true},
		{"a window that is not gone", counted(tumbling(10), api.MRetract, 5, 0), "14 1/0 10 0 0 0 0", true},
		{"a window that is gone", counted(tumbling(10), api.MRetract, 5, 0), "15 1/0 10 0 0 0 0", false},

		{"the least session", counted(session(5), api.MRetract, 0, 0), "0 1/0 5 0 0 0 0", true},
		{"a session too short", counted(session(5), api.MRetract, 0, 0), "0 1/0 4 0 0 0 0", false},
		{"a long session", counted(session(5), api.MRetract, 0, 0), "0 1/0 5000000000 0 0 0 0", true},
		{"the last session", counted(session(5), api.MRetract, 0, 0), "0 1/1000000000000 1000000000005 0 0 0 0", true},
		{"a session too late", counted(session(5), api.MRetract, 0, 0), "0 1/1000000000000 1000000000006 0 0 0 0", false},
		{"a session too early", counted(session(5), api.MRetract, 0, 0), "-1000000000000 1/-1000000000001 -999999999996 0 0 0 0", false},
		{"a session that ends before it begins", counted(session(5), api.MRetract, 0, 0), "0 1/100 50 0 0 0 0", false},
		{"a session of the least and the greatest number", counted(session(5), api.MRetract, 0, 0), "0 1/-9223372036854775808 9223372036854775807 0 0 0 0", false},
		{"a session that ends at the least number", counted(session(5), api.MRetract, 0, 0), "0 1/0 -9223372036854775808 0 0 0 0", false},
		{"two sessions", counted(session(5), api.MRetract, 0, 0), "0 2/0 5 0 0 0 0/5 10 0 0 0 0", true},
		{"two sessions that touch", counted(session(5), api.MRetract, 0, 0), "0 2/0 6 0 0 0 0/5 10 0 0 0 0", false},

		{"rows", counted(tumbling(10), api.MRetract, 5, 0), "7 1/0 10 0 0 0 2/2 5/1 6", true},
		{"rows in another order", counted(tumbling(10), api.MRetract, 5, 0), "7 1/0 10 0 0 0 2/1 6/2 5", false},
		{"a row twice", counted(tumbling(10), api.MRetract, 5, 0), "7 1/0 10 0 0 0 2/1 6/1 6", false},
		{"a row below 0", counted(tumbling(10), api.MRetract, 5, 0), "7 1/0 10 0 0 0 1/-1 6", false},
		{"a row 0 times", counted(tumbling(10), api.MRetract, 5, 0), "7 1/0 10 0 0 0 1/0 6", false},
		{"a row too often", counted(tumbling(10), api.MRetract, 5, 0), "7 1/0 10 0 0 0 1/1000001 6", false},
		{"a row that is longer", counted(tumbling(10), api.MRetract, 5, 0), "7 1/0 10 0 0 0 1/1 6,6", false},
		{"a row that is none", counted(tumbling(10), api.MRetract, 5, 0), "7 1/0 10 0 0 0 1/1 x", false},
		{"too few rows", counted(tumbling(10), api.MRetract, 5, 0), "7 1/0 10 0 0 0 2/1 6", false},
		{"fewer than no rows", counted(tumbling(10), api.MRetract, 5, 0), "7 1/0 10 0 0 0 -1", false},
		{"far too many rows", counted(tumbling(10), api.MRetract, 5, 0), "7 1/0 10 0 0 0 999999999999/1 6", false},

		{"rows had", counted(tumbling(10), api.MAccumulate, 5, 3), "7 1/0 10 0 2 0 1/1 6", true},
		{"rows had below 0", counted(tumbling(10), api.MAccumulate, 5, 3), "7 1/0 10 0 -1 0 1/1 6", false},
		{"rows had, where none is early", counted(tumbling(10), api.MAccumulate, 5, 0), "7 1/0 10 0 1 0 1/1 6", false},
		{"rows had that are enough for an early pane", counted(tumbling(10), api.MAccumulate, 5, 3), "7 1/0 10 0 3 0 1/1 6", false},
		{"rows had, and taken out", counted(tumbling(10), api.MAccumulate, 5, 3), "7 1/0 10 0 3 0 0", true},
		{"too many rows had", counted(tumbling(10), api.MAccumulate, 5, 3), "7 1/0 10 0 4 0 0", false},

		{"an early pane", counted(tumbling(10), api.MRetract, 5, 3), "7 1/0 10 1 1 1 1/3,3/4 1", true},
		{"an early pane, where none is", counted(tumbling(10), api.MRetract, 5, 0), "7 1/0 10 1 0 1 1/3,3/4 1", false},
		{"a number, where none was given", counted(tumbling(10), api.MRetract, 5, 0), "7 1/0 10 1 0 0 1/4 1", false},
		{"an early pane given back", counted(tumbling(10), api.MRetract, 5, 3), "7 1/0 10 1 1 0 1/1 1", true},
		{"an early pane given back, where none is", counted(tumbling(10), api.MAccumulate, 5, 3), "7 1/0 10 1 1 0 1/1 1", false},
		{"a pane without a number", counted(tumbling(10), api.MRetract, 5, 3), "7 1/0 10 0 1 1 1/3,3/4 1", false},
		{"a number below 0", counted(tumbling(10), api.MRetract, 5, 3), "7 1/0 10 -1 1 0 1/4 1", false},
		{"a number too great", counted(tumbling(10), api.MRetract, 5, 3), "7 1/0 10 9223372036854775807 1 1 1/3,3/4 1", false},
		{"a pane of another kind", counted(tumbling(10), api.MRetract, 5, 3), "7 1/0 10 1 1 4 1/3,3/4 1", false},
		{"a kind below 0", counted(tumbling(10), api.MRetract, 5, 3), "7 1/0 10 1 1 -1 1/3,3/4 1", false},
		{"a pane on time before it", counted(tumbling(10), api.MRetract, 5, 3), "7 1/0 10 1 1 2 1/3,3/4 1", false},
		{"a pane with another number of values", counted(tumbling(10), api.MRetract, 5, 3), "7 1/0 10 1 1 1 1/3/4 1", false},
		{"a pane that is no row", counted(tumbling(10), api.MRetract, 5, 3), "7 1/0 10 1 1 1 1/x/4 1", false},

		{"a pane on time", counted(tumbling(10), api.MRetract, 5, 3), "10 1/0 10 1 0 2 1/4,4/4 1", true},
		{"a late pane", counted(tumbling(10), api.MAccumulate, 5, 3), "10 1/0 10 1 0 3 1/4,4/4 1", true},
		{"an early pane behind its end", counted(tumbling(10), api.MRetract, 5, 3), "10 1/0 10 1 0 1 1/4,4/4 1", false},
		{"a pane of other rows", counted(tumbling(10), api.MRetract, 5, 3), "10 1/0 10 1 0 2 1/3,3/4 1", false},
		{"no pane of rows", counted(tumbling(10), api.MRetract, 5, 3), "10 1/0 10 0 0 0 1/4 1", false},
		{"rows had behind a pane", counted(tumbling(10), api.MRetract, 5, 3), "10 1/0 10 1 1 2 1/4,4/4 1", false},
		{"a pane of no rows", counted(tumbling(10), api.MRetract, 5, 3), "10 1/0 10 1 1 2 0/4,4", false},
		{"a pane of no rows any more", counted(tumbling(10), api.MAccumulate, 5, 3), "10 1/0 10 1 1 2 0/4,4", true},
		{"a pane of rows not discarded", counted(tumbling(10), api.MDiscard, 5, 3), "10 1/0 10 1 0 2 1/4,4/4 1", false},
		{"a pane of rows discarded", counted(tumbling(10), api.MDiscard, 5, 3), "10 1/0 10 1 0 2 0/4,4", true},
		{"the end of all", counted(session(5), api.MRetract, 5, 0), "1000000000001 1/1000000000000 1000000000005 1 0 2 1/4,4/4 1", true},
		{"no pane at the end of all", counted(session(5), api.MRetract, 5, 0), "1000000000001 1/1000000000000 1000000000005 0 0 0 1/4 1", false},
	} {
		p := begin(t, x.s)
		kept := p.Text()
		head := kept[:strings.LastIndex(strings.TrimSuffix(kept, "\n"), "\n")+1]
		text := head + strings.ReplaceAll(x.lines, "/", "\n") + "\n"
		e := p.Restore(text)
		if x.allowed && (e != api.OK || p.Text() != text) || !x.allowed && (e != api.ErrSyntax || p.Text() != kept) {
			t.Errorf("%s: Restore(%q) = %d: %q", x.what, text, e, p.Text())
		}
	}
}

// Promise 7.2: what is asked of a window that there is not, or that gave nothing.
func TestNoWindow(t *testing.T) {
	p := run(t, counted(tumbling(10), api.MRetract, 5, 0), `
		add 5 1 1 =
		add 15 1 1 =
		mark 10 = on 0 [0 10) 1,1
	`)
	for _, w := range []api.Window{window(20, 30), window(0, 20), window(5, 10), {}, window(9, 3), window(-3*maxTime, 3*maxTime)} {
		if b, e := p.Contents(w); len(b) > 0 || e != api.ErrNone {
			t.Errorf("Contents(%v) = %v, %d", w, b, e)
		}
		if r, e := p.Given(w); len(r) > 0 || e != api.ErrNone {
			t.Errorf("Given(%v) = %v, %d", w, r, e)
		}
	}
	holds(t, p, "[0 10) 1,1: 1 1\n[10 20) -: 1 1")
	p.Mark(15)
	if _, e := p.Contents(window(0, 10)); e != api.ErrNone {
		t.Errorf("Contents of a window that is gone: %d", e)
	}
}
