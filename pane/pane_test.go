package pane

import (
	"math"
	"slices"
	"strconv"
	"strings"
	"testing"

	"tidewright/api"
	"tidewright/bag"
	"tidewright/row"
)

const (
	maxTime = api.MaxTime
	maxSpan = api.MaxSpan
	end     = maxTime + 1
)

func window(from, to int) api.Window { return api.Window{From: from, To: to} }

func tumbling(size int) api.Spec { return api.Spec{Kind: api.WTumbling, Size: size} }

func sliding(size, step int) api.Spec {
	return api.Spec{Kind: api.WSliding, Size: size, Step: step}
}

func session(gap int) api.Spec { return api.Spec{Kind: api.WSession, Gap: gap} }

func global() api.Spec { return api.Spec{Kind: api.WGlobal} }

func num(n int) api.Value { return api.Value{Kind: api.VInt, N: n} }

// asRow returns the row of a text.
func asRow(text string) api.Row {
	r, e := row.Parse(text)
	if e != api.OK {
		panic("no row: " + text)
	}
	return r
}

// modes are all modes of panes.
func modes() []int { return []int{api.MAccumulate, api.MDiscard, api.MRetract} }

// counted returns a setup of rows with one column, which tells how many there are, and the sum of their values.
func counted(s api.Spec, mode, lateness, early int) Setup {
	return Setup{Spec: s, Aggs: []api.Agg{{Kind: api.ACount}, {Kind: api.ASum}}, Columns: 1, Lateness: lateness, Mode: mode, Early: early}
}

func begin(t *testing.T, s Setup) *Panes {
	t.Helper()
	p, e := New(s)
	if p == nil || e != api.OK {
		t.Fatalf("New(%+v) = %v, %d", s, p, e)
	}
	return p
}

// shown writes panes: `on 0 [0 10) 2,3` is the one on time with the number 0, `-on 0 [0 10) 2,3` the same given back.
func shown(l []api.Pane) string {
	var texts []string
	for _, x := range l {
		kind := strconv.Itoa(x.Kind)
		switch x.Kind {
		case api.PEarly:
			kind = "early"
		case api.POn:
			kind = "on"
		case api.PLate:
			kind = "late"
		}
		if x.Back {
			kind = "-" + kind
		}
		span := "[" + strconv.Itoa(x.Window.From) + " " + strconv.Itoa(x.Window.To) + ")"
		texts = append(texts, strings.Join([]string{kind, strconv.Itoa(x.Number), span, row.Text(x.Row)}, " "))
	}
	return strings.Join(texts, "; ")
}

// call does what words say: `add TIME ROW N`, or `mark M`.
func call(t *testing.T, p *Panes, words string) ([]api.Pane, api.Errno) {
	t.Helper()
	args := strings.Fields(words)
	number := func(i int) int {
		n, err := strconv.Atoi(args[i])
		if err != nil {
			t.Fatalf("%q: %v", words, err)
		}
		return n
	}
	if args[0] == "mark" {
		return p.Mark(number(1))
	}
	return p.Add(number(1), asRow(args[2]), number(3))
}

// errno returns the error of a name in the scripts; OK for others.
func errno(name string) api.Errno {
	switch name {
	case "ErrInvalid":
		return api.ErrInvalid
	case "ErrRange":
		return api.ErrRange
	case "ErrLate":
		return api.ErrLate
	case "ErrState":
		return api.ErrState
	case "ErrLimit":
		return api.ErrLimit
	}
	return api.OK
}

// run does the lines of a script, each a call and what it gives, panes or an error: `mark 10 = on 0 [0 10) 2,3`. Behind an error nothing may be changed.
func run(t *testing.T, s Setup, script string) *Panes {
	t.Helper()
	p := begin(t, s)
	for line := range strings.Lines(strings.TrimSpace(script)) {
		words, want, _ := strings.Cut(strings.TrimSpace(line), "=")
		want = strings.TrimSpace(want)
		before := p.Text()
		l, e := call(t, p, words)
		switch {
		case e != errno(want):
			t.Errorf("%s: error %d, not %q", words, e, want)
		case e == api.OK && shown(l) != want:
			t.Errorf("%s: %q, not %q", words, shown(l), want)
		case e != api.OK && (len(l) > 0 || p.Text() != before):
			t.Errorf("%s: with the error %d %q, and %q of %q", words, e, shown(l), p.Text(), before)
		}
	}
	return p
}

// holds checks what is there: lines `[0 10) 2,3: 1 5, 2 7` with a window, what it gave (`-` for nothing), and its contents, each so many times.
func holds(t *testing.T, p *Panes, script string) {
	t.Helper()
	var lines []string
	for _, w := range p.Windows() {
		b, e := p.Contents(w)
		r, f := p.Given(w)
		given := "-"
		if f == api.OK {
			given = row.Text(r)
		}
		if e != api.OK || f != api.OK && (f != api.ErrNone || len(r) > 0) {
			t.Errorf("%v: Contents %d, Given %v, %d", w, e, r, f)
		}
		line := "[" + strconv.Itoa(w.From) + " " + strconv.Itoa(w.To) + ") " + given + ": "
		line += strings.ReplaceAll(strings.TrimSpace(bag.Format(b)), "\n", ", ")
		lines = append(lines, strings.TrimSpace(line))
	}
	var want []string
	for line := range strings.Lines(strings.TrimSpace(script)) {
		want = append(want, strings.TrimSpace(line))
	}
	if !slices.Equal(lines, want) {
		t.Errorf("there are %q, not %q", lines, want)
	}
}

// validSetups are setups with the edges of their fields.
func validSetups() []Setup {
	one := []api.Agg{{Kind: api.ACount}}
	eight := slices.Repeat(one, 8)
	return []Setup{
		{Spec: tumbling(10), Aggs: one, Mode: api.MAccumulate},
		{Spec: global(), Aggs: one, Columns: 8, Mode: api.MDiscard, Early: api.MaxCount},
		{Spec: session(5), Aggs: eight, Columns: 0, Mode: api.MRetract, Lateness: maxSpan},
		{Spec: sliding(10, 3), Aggs: []api.Agg{{Kind: api.ADistinct, Column: 7}, {Kind: api.ALeast}}, Columns: 8, Mode: api.MRetract, Lateness: 1, Early: 1},
		counted(tumbling(maxSpan), api.MDiscard, 5, 2),
	}
}

// invalidSetups are setups each of which breaks one rule.
func invalidSetups() []Setup {
	var l []Setup
	but := func(change func(s *Setup)) {
		s := counted(tumbling(10), api.MRetract, 5, 2)
		change(&s)
		l = append(l, s)
	}
	for _, spec := range []api.Spec{{}, tumbling(0), tumbling(maxSpan + 1), sliding(51, 1), session(0), {Kind: api.WGlobal, Gap: 1}, {Kind: 9}} {
		but(func(s *Setup) { s.Spec = spec })
	}
	for _, aggs := range [][]api.Agg{nil, {{}}, {{Kind: 8}}, {{Kind: api.ACount, Column: 1}}, {{Kind: api.ASum, Column: 1}}, {{Kind: api.ASum, Column: -1}}, slices.Repeat([]api.Agg{{Kind: api.ACount}}, 9)} {
		but(func(s *Setup) { s.Aggs = aggs })
	}
	for _, n := range []int{-1, math.MinInt, math.MaxInt} {
		but(func(s *Setup) { s.Columns = n })
		but(func(s *Setup) { s.Aggs, s.Columns = []api.Agg{{Kind: api.ACount}}, n })
		but(func(s *Setup) { s.Lateness = n })
		but(func(s *Setup) { s.Mode = n })
		but(func(s *Setup) { s.Early = n })
	}
	but(func(s *Setup) { s.Columns = 0 })
	but(func(s *Setup) { s.Columns = 9 })
	but(func(s *Setup) { s.Lateness = maxSpan + 1 })
	but(func(s *Setup) { s.Mode = 0 })
	but(func(s *Setup) { s.Mode = 4 })
	but(func(s *Setup) { s.Early = api.MaxCount + 1 })
	return append(l, Setup{})
}

// Promise 7.1: setups.
func TestSetups(t *testing.T) {
	for _, s := range validSetups() {
		if !ValidSetup(s) {
			t.Errorf("ValidSetup(%+v) is false", s)
		}
		p := begin(t, s)
		if p.Now() != -maxTime || len(p.Windows()) != 0 {
			t.Errorf("New(%+v): at %d with %v", s, p.Now(), p.Windows())
		}
	}
	for _, s := range invalidSetups() {
		if ValidSetup(s) {
			t.Errorf("ValidSetup(%+v) is true", s)
		}
		if p, e := New(s); p != nil || e != api.ErrInvalid {
			t.Errorf("New(%+v) = %v, %d", s, p, e)
		}
		if l, e := Batch(s, nil); len(l) != 0 || e != api.ErrInvalid {
			t.Errorf("Batch(%+v) = %v, %d", s, l, e)
		}
	}
}

// Promise P7.1, and the rule that methods of a nil receiver do nothing (R5). A group that New did not make, or whose setup is none any more, does nothing either.
func TestNil(t *testing.T) {
	spoilt := begin(t, counted(tumbling(10), api.MRetract, 0, 0))
	spoilt.Add(5, asRow("1"), 1)
	spoilt.Spec = api.Spec{}
	for _, p := range []*Panes{nil, {}, {Setup: counted(tumbling(10), api.MRetract, 0, 0)}, spoilt} {
		for _, time := range []int{5, maxTime + 1} {
			if l, e := p.Add(time, asRow("1"), 1); len(l) > 0 || e != api.ErrInvalid {
				t.Errorf("Add = %v, %d", l, e)
			}
			if l, e := p.Mark(time + 1); len(l) > 0 || e != api.ErrInvalid {
				t.Errorf("Mark = %v, %d", l, e)
			}
		}
		if l, e := p.Add(0, nil, 1); len(l) > 0 || e != api.ErrInvalid {
			t.Errorf("Add of a row without values = %v, %d", l, e)
		}
		if b, e := p.Contents(window(0, 10)); len(b) > 0 || e != api.ErrInvalid {
			t.Errorf("Contents = %v, %d", b, e)
		}
		if r, e := p.Given(window(0, 10)); len(r) > 0 || e != api.ErrInvalid {
			t.Errorf("Given = %v, %d", r, e)
		}
		text := begin(t, counted(tumbling(10), api.MRetract, 0, 0)).Text()
		for _, s := range []string{"", "x", text} {
			if e := p.Restore(s); e != api.ErrInvalid {
				t.Errorf("Restore(%q) = %d", s, e)
			}
		}
		if p.Now() != -maxTime || len(p.Windows()) > 0 || p.Text() != "" {
			t.Errorf("at %d with %v: %q", p.Now(), p.Windows(), p.Text())
		}
	}
}

// Promise 7.3: the order of any panes.
func TestComparePanes(t *testing.T) {
	ascending := []api.Pane{
		{Window: window(-5, -9)},
		{Window: window(0, 5), Kind: 9, Number: 9, Back: true, Row: asRow("9")},
		{Window: window(0, 10), Number: -1, Back: true},
		{Window: window(0, 10)},
		{Window: window(0, 10), Row: api.Row{{Kind: 7}}},
		{Window: window(0, 10), Row: asRow("1")},
		{Window: window(0, 10), Row: asRow("1,1")},
		{Window: window(0, 10), Row: asRow("2")},
		{Window: window(0, 10), Kind: 1},
		{Window: window(0, 10), Kind: 2, Row: asRow("1")},
		{Window: window(0, 10), Kind: 1, Back: true},
		{Window: window(0, 10), Kind: 2, Back: true, Row: asRow("1")},
		{Window: window(0, 10), Number: 1, Kind: 1},
		{Window: window(0, 10), Number: 2},
		{Window: window(0, 11)},
		{Window: window(1, 2), Number: math.MinInt},
		{Window: window(1, 2), Number: math.MaxInt},
	}
	for i, a := range ascending {
		for j, b := range ascending {
			want := 0
			if i < j {
				want = -1
			} else if i > j {
				want = 1
			}
			if got := ComparePanes(a, b); got != want {
				t.Errorf("ComparePanes(%v, %v) = %d, not %d", a, b, got, want)
			}
		}
	}
}
