package motif

import (
	"slices"
	"strconv"
	"strings"
	"testing"

	"tidewright/api"
)

// grown returns a seeker with events of many sorts: gone and held, below its mark and above it, in matches that were told and that were not.
func grown(t *testing.T, skip int) *Seeker {
	t.Helper()
	p := pattern(`within 20 skip 0 / next a {v < 5} / any b {v > a.v} unless {s = "no"} / then c {v > b.v and s != a.s}`)
	p.Skip = skip
	k := begin(t, wide(), p)
	for i, text := range []string{`1,"x"`, `2,"\n\x09\xff\\\""`, `3,~`, `1,"no"`, `2,"x"`, `~,~`, `4,"y"`, `3,"y"`, `7,""`, `5,"{"`} {
		k.Add(event(strconv.Itoa(4*i) + " " + text))
		k.Add(event(strconv.Itoa(4*i) + " " + text))
		k.Mark(4*i - 5)
	}
	k.Mark(35)
	return k
}

// goOn tells a seeker more, and returns what it gives, and what it is then.
func goOn(k *Seeker) string {
	var text strings.Builder
	for i := range 30 {
		e := k.Add(event(strconv.Itoa(33+i) + " " + strconv.Itoa(i*i%11) + `,"z"`))
		l, f := k.Mark(30 + i)
		text.WriteString(strconv.Itoa(int(e)) + shown(l) + strconv.Itoa(int(f)) + "\n")
	}
	l, e := k.Mark(end)
	text.WriteString(shown(l) + strconv.Itoa(int(e)))
	return text.String() + k.Text()
}

// Promises 8.2 and P8.5.
func TestRestore(t *testing.T) {
	for skip := range 3 {
		k := grown(t, skip)
		text := k.Text()
		q := begin(t, k.schema, k.pattern)
		q.Add(event(`7 1,"a"`)) // what was there before is no more
		q.Mark(5)
		if e := q.Restore(text); e != api.OK || q.Text() != text || q.Now() != 35 || q.Waiting() != k.Waiting() {
			t.Fatalf("Restore(%q) = %d: %q", text, e, q.Text())
		}
		got, want := goOn(q), goOn(k)
		if got != want || strings.Count(want, "\n") < 32 {
			t.Errorf("%q goes on with %q, not %q", text, got, want)
		}
		// A mark may go back by it.
		if e := k.Restore(text); e != api.OK || k.Now() != 35 || k.Text() != text {
			t.Errorf("Restore of what was = %d: %q", e, k.Text())
		}
	}
	k := begin(t, wide(), good())
	for _, m := range []int{-maxTime, -3, 0, maxTime, end} {
		k.Mark(m)
		q := begin(t, wide(), good())
		if e := q.Restore(k.Text()); e != api.OK || q.Now() != m {
			t.Errorf("at %d: %d, %d", m, e, q.Now())
		}
	}
}

// Promise P8.5: a restored seeker and the one its text is of go on apart.
func TestRestoredApart(t *testing.T) {
	k := grown(t, 1)
	q := begin(t, k.schema, k.pattern)
	text := k.Text()
	q.Restore(text)
	goOn(q)
	if k.Text() != text {
		t.Errorf("%q, not %q", k.Text(), text)
	}
	// How many it was told goes on, too.
	p := pattern("within 0 skip 0 / next a {0}")
	k, q = begin(t, narrow(), p), begin(t, narrow(), p)
	for i := range 39 {
		k.Add(event(strconv.Itoa(i) + " 1"))
	}
	k.Mark(100)
	if e := q.Restore(k.Text()); e != api.OK || q.Waiting() != 0 {
		t.Errorf("%d, %d wait", e, q.Waiting())
	}
	run(t, q, `
		add 100 1 =
		add 100 1 = ErrLimit
	`)
}

// Promise 8.2: a text that is longer than others may be.
func TestRestoreLong(t *testing.T) {
	s := api.Schema{}
	for _, name := range "abcdefgh" {
		s = append(s, api.Column{Name: string(name), Kind: api.VText})
	}
	k := begin(t, s, pattern("within 5 skip 0 / next a {0}"))
	for i := range 40 {
		k.Add(api.Event{Time: i, Row: slices.Repeat(api.Row{word(strings.Repeat("\x00", 200))}, 8)})
	}
	q := begin(t, s, k.pattern)
	if e := q.Restore(k.Text()); e != api.OK || q.Text() != k.Text() || len(k.Text()) < 3*api.MaxText {
		t.Errorf("a text of %d bytes: %d", len(k.Text()), e)
	}
}

// Promise 8.2: other texts. Nothing changes with them.
func TestOtherTexts(t *testing.T) {
	k := grown(t, 1)
	text := k.Text()
	q := begin(t, k.schema, k.pattern)
	q.Mark(3)
	kept := q.Text()
	refused := func(what, text string) {
		t.Helper()
		if e := q.Restore(text); e != api.ErrSyntax || q.Text() != kept {
			t.Fatalf("%s: Restore(%q) = %d: %q", what, text, e, q.Text())
		}
	}
	for _, s := range []string{"", "x", "\n", text + "\n", text + "x", text + text, " " + text, strings.ReplaceAll(text, "\n", "\r\n"), Format(k.pattern), text + "99 1,~\n"} {
		refused("another text", s)
	}
	for i := range text {
		refused("a beginning", text[:i])
		refused("an end", text[i+1:])
		for _, c := range []string{"", " ", "\n", "0", "7", "-", "x", "00", "\xff", "99999999999999999999"} {
			s := text[:i] + c + text[i+1:]
			if s == text {
				continue
			}
			// It may be the text of another seeker.
			if e := q.Restore(s); e == api.OK && q.Text() == s {
				q = begin(t, k.schema, k.pattern)
				q.Mark(3)
			} else if e != api.ErrSyntax || q.Text() != kept {
				t.Fatalf("Restore(%q) = %d: %q", s, e, q.Text())
			}
		}
	}
	// The text of a seeker of another pattern, or over another schema.
	for _, change := range []func(s api.Schema, p *api.Pattern){
		func(s api.Schema, p *api.Pattern) { s[1].Name = "t" },
		func(s api.Schema, p *api.Pattern) { s[0].Kind = api.VText },
		func(s api.Schema, p *api.Pattern) { p.Within = 21 },
		func(s api.Schema, p *api.Pattern) { p.Skip = 2 },
		func(s api.Schema, p *api.Pattern) { p.Stages = p.Stages[:2] },
		func(s api.Schema, p *api.Pattern) { p.Stages[0].Name = "aa" },
		func(s api.Schema, p *api.Pattern) { p.Stages[0].Cond = "0" },
		func(s api.Schema, p *api.Pattern) { p.Stages[1].Unless = "" },
		func(s api.Schema, p *api.Pattern) { p.Stages[1].Follow = api.FNext },
	} {
		s, p := slices.Clone(k.schema), api.Pattern{Within: 20, Skip: 1}
		for _, stage := range k.pattern.Stages {
			stage.Cond, stage.Unless = "1", "1"
			if len(p.Stages) == 0 {
				stage.Unless = ""
			}
			p.Stages = append(p.Stages, stage)
		}
		k, q := begin(t, s, p), api.Pattern{Within: p.Within, Skip: p.Skip, Stages: slices.Clone(p.Stages)}
		s = slices.Clone(s)
		change(s, &q)
		other := begin(t, s, q)
		kept := other.Text()
		if e := other.Restore(k.Text()); e != api.ErrSyntax || other.Text() != kept {
			t.Errorf("the text %q in a seeker of %q: %d", k.Text(), Format(q), e)
		}
		if e := k.Restore(kept); e != api.ErrSyntax {
			t.Errorf("the text %q in a seeker of %q: %d", kept, Format(p), e)
		}
	}
}

// Promise 8.2: conditions with braces in them, which Format does not write.
func TestRestoreBraces(t *testing.T) {
	p := api.Pattern{Within: 5, Stages: []api.Stage{{Name: "a", Cond: `s != "} unless {"`, Follow: api.FNext}, {Name: "b", Cond: `s = "}"`, Follow: api.FAny, Unless: `s = "{\n"`}}}
	k, q := begin(t, wide(), p), begin(t, wide(), p)
	k.Add(event(`1 1,"{"`))
	k.Mark(1)
	if e := q.Restore(k.Text()); e != api.OK || q.Text() != k.Text() {
		t.Errorf("Restore(%q) = %d: %q", k.Text(), e, q.Text())
	}
	run(t, q, `
		add 2 1,"}" =
		mark 3 = 1 1,"{", 2 1,"}"
	`)
}

// Promise 8.2: texts in the form of those that there are, but of seekers that can't have come to be.
func TestForgedTexts(t *testing.T) {
	two, one := "next a {1} / any b {v > a.v}", "next a {v = 1}"
	for _, x := range []struct {
		what    string
		head    string
		lines   string // mark, told, ended, free, held; events
		allowed bool
	}{
		{"nothing", "within 10 skip 0 / " + two, "7 0 0 0 0", true},
		{"a mark too small", "within 10 skip 0 / " + two, "-1000000000001 0 0 0 0", false},
		{"the least mark", "within 10 skip 0 / " + two, "-1000000000000 0 0 0 0", true},
		{"the greatest mark", "within 10 skip 0 / " + two, "1000000000001 0 0 0 0", true},
		{"a mark too great", "within 10 skip 0 / " + two, "1000000000002 0 0 0 0", false},
		{"a mark far too great", "within 10 skip 0 / " + two, "9223372036854775807 0 0 0 0", false},
		{"a mark far too small", "within 10 skip 0 / " + two, "-9223372036854775808 1 0 0 1/-5 1", false},
		{"fewer told than 0", "within 10 skip 0 / " + two, "7 -1 0 0 0", false},
		{"far fewer told than 0", "within 10 skip 0 / " + two, "7 -9223372036854775808 0 0 1/7 1", false},
		{"fewer told than held", "within 10 skip 0 / " + two, "7 1 0 0 2/7 1/7 2", false},
		{"as many told as held", "within 10 skip 0 / " + two, "7 2 0 0 2/7 1/7 2", true},
		{"more told than held", "within 10 skip 0 / " + two, "7 3 0 0 2/7 1/7 2", true},
		{"as many told as may be", "within 10 skip 0 / " + two, "7 40 0 0 2/7 1/7 2", true},
		{"more told than may be", "within 10 skip 0 / " + two, "7 41 0 0 2/7 1/7 2", false},
		{"more told than held, at first", "within 10 skip 0 / " + two, "-1000000000000 3 0 0 2/7 1/7 2", false},
		{"more told than held, before one can be gone", "within 10 skip 0 / " + two, "-999999999990 3 0 0 2/7 1/7 2", false},
		{"more told than held, when one is gone", "within 10 skip 0 / " + two, "-999999999989 3 0 0 2/7 1/7 2", true},
		{"all gone", "within 10 skip 0 / " + two, "1000000000001 3 0 0 0", true},
		{"fewer held than there are", "within 10 skip 0 / " + two, "7 2 0 0 1/7 1/7 2", false},
		{"more held than there are", "within 10 skip 0 / " + two, "7 2 0 0 2/7 1", false},
		{"fewer held than 0", "within 10 skip 0 / " + two, "7 2 0 0 -1", false},

		{"another order of times", "within 10 skip 0 / " + two, "7 2 0 0 2/8 1/7 2", false},
		{"another order of rows", "within 10 skip 0 / " + two, "7 2 0 0 2/7 2/7 1", false},
		{"equal events", "within 10 skip 0 / " + two, "7 2 0 0 2/7 1/7 1", true},
		{"a time too great", "within 10 skip 0 / " + two, "7 1 0 0 1/1000000000001 1", false},
		{"a time too small", "within 10 skip 0 / " + two, "-1000000000000 1 0 0 1/-1000000000001 1", false},
		{"a time far too great", "within 10 skip 0 / " + two, "7 1 0 0 1/9223372036854775807 1", false},
		{"a row too long", "within 10 skip 0 / " + two, "7 1 0 0 1/7 1,1", false},
		{"a row of another kind", "within 10 skip 0 / " + two, "7 1 0 0 1/7 \"1\"", false},
		{"a row that is none", "within 10 skip 0 / " + two, "7 1 0 0 1/7 x", false},
		{"no row", "within 10 skip 0 / " + two, "7 1 0 0 1/7 ", false},
		{"an event at the edge", "within 10 skip 0 / " + two, "17 1 0 0 1/7 1", true},
		{"an event that is gone", "within 10 skip 0 / " + two, "18 1 0 0 1/7 1", false},
		{"an event in the end", "within 10 skip 0 / " + two, "1000000000001 1 0 0 1/1000000000000 1", false},

		{"a match that has ended", "within 10 skip 0 / " + two, "7 2 1 0 2/3 1/6 2", true},
		{"a match that has not ended", "within 10 skip 0 / " + two, "7 2 0 0 2/3 1/7 2", true},
		{"a match too few", "within 10 skip 0 / " + two, "7 2 0 0 2/3 1/6 2", false},
		{"a match too many", "within 10 skip 0 / " + two, "7 2 2 0 2/3 1/6 2", false},
		{"a match that has ended too early", "within 10 skip 0 / " + two, "7 2 1 0 2/3 1/7 2", false},
		{"a match of what is gone", "within 10 skip 0 / " + two, "7 3 2 0 2/3 1/6 2", true},
		{"matches of nothing", "within 10 skip 0 / " + two, "7 0 1 0 0", false},
		{"fewer matches than 0", "within 10 skip 0 / " + two, "7 1 -1 0 0", false},
		{"far fewer matches than 0", "within 10 skip 0 / " + two, "7 3 -9223372036854775808 0 2/3 1/6 2", false},
		{"as many matches as may be", "within 10 skip 0 / " + two, "7 40 400 0 0", true},
		{"more matches than may be", "within 10 skip 0 / " + two, "7 40 401 0 0", false},

		{"one that may begin no match", "within 10 skip 1 / " + two, "7 3 2 1 2/3 1/6 2", true},
		{"two that may begin no match", "within 10 skip 1 / " + two, "7 3 2 2 2/3 1/6 2", true},
		{"more that may begin no match than there are", "within 10 skip 1 / " + two, "7 3 2 3 2/3 1/6 2", false},
		{"fewer that may begin no match than 0", "within 10 skip 1 / " + two, "7 3 2 -1 2/3 1/6 2", false},
		{"one above the mark that may begin no match", "within 10 skip 1 / " + two, "7 3 1 1 2/7 1/8 2", false},
		{"one below the mark that may begin no match", "within 10 skip 1 / " + two, "7 3 1 1 2/6 1/8 2", true},
		{"one that may begin no match, where nothing is left out", "within 10 skip 0 / " + two, "7 3 2 1 2/3 1/6 2", false},
		{"one that may begin no match, where others may begin", "within 10 skip 2 / " + two, "7 3 2 1 2/3 1/6 2", false},
		{"one that may begin no match, where there was none", "within 10 skip 1 / " + two, "7 3 1 1 2/3 1/6 2", false},
		{"one that may begin no match, where none is gone", "within 10 skip 1 / " + two, "7 2 1 1 2/3 1/6 2", false},

		{"matches of one stage", "within 10 skip 0 / " + one, "7 3 2 0 3/3 1/4 1/5 2", true},
		{"too few matches of one stage", "within 10 skip 0 / " + one, "7 3 1 0 3/3 1/4 1/5 2", false},
	} {
		k := begin(t, narrow(), pattern(x.head))
		kept := k.Text()
		text := strings.TrimSuffix(kept, "-1000000000000 0 0 0 0\n") + strings.ReplaceAll(x.lines, "/", "\n") + "\n"
		e := k.Restore(text)
		if x.allowed && (e != api.OK || k.Text() != text) || !x.allowed && (e != api.ErrSyntax || k.Text() != kept) {
			t.Errorf("%s: Restore(%q) = %d: %q", x.what, text, e, k.Text())
		}
	}
	// More matches among the events alone than may be.
	k := begin(t, narrow(), pattern("within 40 skip 0 / "+two))
	text := strings.TrimSuffix(k.Text(), "-1000000000000 0 0 0 0\n")
	for extra, want := range map[bool]api.Errno{false: api.OK, true: api.ErrSyntax} {
		l := rises(extra)
		lines := "40 40 400 0 40\n"
		for _, x := range l {
			lines += strconv.Itoa(x.Time) + " " + strconv.Itoa(x.Row[0].N) + "\n"
		}
		if e := k.Restore(text + lines); e != want {
			t.Errorf("%t: %d", extra, e)
		}
	}
}
