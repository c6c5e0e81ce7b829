package motif

import (
	"math"
	"slices"
	"strings"
	"testing"

	"tidewright/api"
)

// good is a pattern for wide, to be changed.
func good() api.Pattern {
	return api.Pattern{
		Stages: []api.Stage{
			{Name: "a", Cond: "v > 5", Follow: api.FNext},
			{Name: "b", Cond: "v > a.v", Follow: api.FThen, Unless: "s = a.s"},
			{Name: "c", Cond: "s = b.s & a.s", Follow: api.FAny, Unless: "v < b.v + a.v"},
		},
		Within: 10,
	}
}

// deep returns an expression of so many levels.
func deep(levels int) string { return strings.Repeat("-", levels-1) + "v" }

// stages returns so many stages.
func stages(n int) []api.Stage {
	var l []api.Stage
	for i := range n {
		l = append(l, api.Stage{Name: string(rune('a' + i)), Cond: "1", Follow: api.FNext})
	}
	return l
}

// validPatterns are changes of good that leave it valid; those with false can't be written.
func validPatterns() map[string]func(p *api.Pattern) {
	return map[string]func(p *api.Pattern){
		"as it is":            func(p *api.Pattern) {},
		"one stage":           func(p *api.Pattern) { p.Stages = stages(1) },
		"six stages":          func(p *api.Pattern) { p.Stages = stages(6) },
		"within nothing":      func(p *api.Pattern) { p.Within = 0 },
		"within the greatest": func(p *api.Pattern) { p.Within = maxSpan },
		"skip 1":              func(p *api.Pattern) { p.Skip = 1 },
		"skip 2":              func(p *api.Pattern) { p.Skip = 2 },
		"follows next":        func(p *api.Pattern) { p.Stages[1].Follow = api.FNext },
		"follows any":         func(p *api.Pattern) { p.Stages[1].Follow = api.FAny },
		"no unless":           func(p *api.Pattern) { p.Stages[1].Unless = "" },
		"a long name":         func(p *api.Pattern) { p.Stages[2].Name = "c_23456789012345" },
		"a word":              func(p *api.Pattern) { p.Stages[2].Name = "not" },
		"a column":            func(p *api.Pattern) { p.Stages[2].Name = "v" },
		"null":                func(p *api.Pattern) { p.Stages[1].Cond = "null" },
		"null, unless null":   func(p *api.Pattern) { p.Stages[2].Unless = "if(v, null, null)" },
		"deep":                func(p *api.Pattern) { p.Stages[0].Cond = deep(40) },
		"long":                func(p *api.Pattern) { p.Stages[0].Cond = strings.Repeat(" ", api.MaxText-1) + "v" },
		"a brace in a text":   func(p *api.Pattern) { p.Stages[0].Cond = `s = "{}"` },
	}
}

// unformedPatterns are changes of good that leave no pattern for any schema, by more than what its conditions say.
func unformedPatterns() map[string]func(p *api.Pattern) {
	return map[string]func(p *api.Pattern){
		"no stages":               func(p *api.Pattern) { p.Stages = nil },
		"seven stages":            func(p *api.Pattern) { p.Stages = stages(7) },
		"many stages":             func(p *api.Pattern) { p.Stages = slices.Repeat(stages(1), 1000) },
		"within less than 0":      func(p *api.Pattern) { p.Within = -1 },
		"within too much":         func(p *api.Pattern) { p.Within = maxSpan + 1 },
		"skip -1":                 func(p *api.Pattern) { p.Skip = -1 },
		"skip 3":                  func(p *api.Pattern) { p.Skip = 3 },
		"the first follows then":  func(p *api.Pattern) { p.Stages[0].Follow = api.FThen },
		"the first follows any":   func(p *api.Pattern) { p.Stages[0].Follow = api.FAny },
		"the first follows 0":     func(p *api.Pattern) { p.Stages[0].Follow = 0 },
		"the first has an unless": func(p *api.Pattern) { p.Stages[0].Unless = "0" },
		"another follows 0":       func(p *api.Pattern) { p.Stages[1].Follow = 0 },
		"another follows 4":       func(p *api.Pattern) { p.Stages[2].Follow = 4 },
		"another follows far off": func(p *api.Pattern) { p.Stages[2].Follow = math.MinInt },
		"no name":                 func(p *api.Pattern) { p.Stages[2].Name = "" },
		"the first without name":  func(p *api.Pattern) { p.Stages[0] = api.Stage{Cond: "1", Follow: api.FNext} },
		"a great letter":          func(p *api.Pattern) { p.Stages[2].Name = "C" },
		"a name with a blank":     func(p *api.Pattern) { p.Stages[2].Name = "c d" },
		"a name too long":         func(p *api.Pattern) { p.Stages[2].Name = "c_234567890123456" },
		"two of a name":           func(p *api.Pattern) { p.Stages[2].Name = "b" },
		"the first one's name":    func(p *api.Pattern) { p.Stages[2].Name = "a" },
	}
}

// noExpressions are changes of good by which a condition is no expression.
func noExpressions() map[string]func(p *api.Pattern) {
	return map[string]func(p *api.Pattern){
		"no condition":           func(p *api.Pattern) { p.Stages[1].Cond = "" },
		"a blank for an unless":  func(p *api.Pattern) { p.Stages[1].Unless = " " },
		"half a condition":       func(p *api.Pattern) { p.Stages[0].Cond = "v >" },
		"half an unless":         func(p *api.Pattern) { p.Stages[2].Unless = "v >" },
		"a line feed":            func(p *api.Pattern) { p.Stages[0].Cond = "v >\n5" },
		"a brace":                func(p *api.Pattern) { p.Stages[0].Cond = "{v}" },
		"two levels too deep":    func(p *api.Pattern) { p.Stages[0].Cond = deep(41) },
		"an unless too deep":     func(p *api.Pattern) { p.Stages[1].Unless = deep(41) },
		"a condition too long":   func(p *api.Pattern) { p.Stages[0].Cond = strings.Repeat(" ", api.MaxText) + "v" },
		"a word before a column": func(p *api.Pattern) { p.Stages[1].Name, p.Stages[2].Cond, p.Stages[2].Unless = "if", "if.v", "" },
	}
}

// misfits are changes of good by which it is a pattern for other schemas alone, or for none as its names are not bound.
func misfits() map[string]func(p *api.Pattern) {
	return map[string]func(p *api.Pattern){
		"a text":                   func(p *api.Pattern) { p.Stages[0].Cond = "s" },
		"unless a text":            func(p *api.Pattern) { p.Stages[1].Unless = `"x"` },
		"no column":                func(p *api.Pattern) { p.Stages[0].Cond = "w" },
		"unless no column":         func(p *api.Pattern) { p.Stages[1].Unless = "w" },
		"no column of a stage":     func(p *api.Pattern) { p.Stages[1].Cond = "a.w" },
		"no stage":                 func(p *api.Pattern) { p.Stages[1].Cond = "d.v" },
		"unless no stage":          func(p *api.Pattern) { p.Stages[1].Unless = "d.v" },
		"the stage itself":         func(p *api.Pattern) { p.Stages[1].Cond = "b.v" },
		"unless the stage itself":  func(p *api.Pattern) { p.Stages[1].Unless = "b.v" },
		"the first itself":         func(p *api.Pattern) { p.Stages[0].Cond = "a.v" },
		"a stage behind":           func(p *api.Pattern) { p.Stages[1].Cond = "c.v" },
		"unless a stage behind":    func(p *api.Pattern) { p.Stages[1].Unless = "c.v" },
		"a stage as a column":      func(p *api.Pattern) { p.Stages[1].Cond = "a" },
		"kinds that do not fit":    func(p *api.Pattern) { p.Stages[0].Cond = "v > s" },
		"kinds of another stage":   func(p *api.Pattern) { p.Stages[1].Cond = "v > a.s" },
		"another name in between":  func(p *api.Pattern) { p.Stages[0].Name = "d" },
		"the last of the unlesses": func(p *api.Pattern) { p.Stages[2].Unless = "c.v" },
	}
}

// changed returns good with a change.
func changed(change func(p *api.Pattern)) api.Pattern {
	p := good()
	change(&p)
	return p
}

// invalid checks that nothing takes a schema, a pattern and events.
func invalid(t *testing.T, what string, s api.Schema, p api.Pattern, l []api.Event) {
	t.Helper()
	if got, e := Matches(s, p, l); len(got) > 0 || e != api.ErrInvalid {
		t.Errorf("%s: Matches = %v, %d", what, got, e)
	}
	if got, e := Rows(s, p, l); len(got) > 0 || e != api.ErrInvalid {
		t.Errorf("%s: Rows = %v, %d", what, got, e)
	}
	if IsMatch(s, p, l, []int{0}) || IsMatch(s, p, l, []int{0, 1}) || IsMatch(s, p, l, []int{0, 1, 2}) || IsMatch(s, p, l, nil) {
		t.Errorf("%s: IsMatch", what)
	}
}

// Promise 8.1: Valid, and what is not valid is ErrInvalid everywhere.
func TestValid(t *testing.T) {
	l := events(`0 6,"x"; 1 7,"y"; 2 8,"yx"`)
	for what, change := range validPatterns() {
		p := changed(change)
		if !Valid(wide(), p) {
			t.Errorf("%s: not valid", what)
		}
		if k, e := NewSeeker(wide(), p); k == nil || e != api.OK {
			t.Errorf("%s: NewSeeker = %v, %d", what, k, e)
		}
		if _, e := Matches(wide(), p, l); e != api.OK {
			t.Errorf("%s: Matches %d", what, e)
		}
	}
	for _, group := range []map[string]func(p *api.Pattern){unformedPatterns(), noExpressions(), misfits()} {
		for what, change := range group {
			p := changed(change)
			if Valid(wide(), p) {
				t.Errorf("%s: valid", what)
			}
			if k, e := NewSeeker(wide(), p); k != nil || e != api.ErrInvalid {
				t.Errorf("%s: NewSeeker = %v, %d", what, k, e)
			}
			if got, e := Result(wide(), p); len(got) > 0 || e != api.ErrInvalid {
				t.Errorf("%s: Result = %v, %d", what, got, e)
			}
			invalid(t, what, wide(), p, l)
		}
	}
}

// Promise 8.1: schemas that are none.
func TestInvalidSchemas(t *testing.T) {
	p := pattern("within 10 skip 0 / next a {1}")
	for _, s := range []api.Schema{nil, {}, {{Name: "V", Kind: api.VInt}}, {{Name: "v"}}, {{Name: "v", Kind: 3}}, {{Name: "v", Kind: api.VInt}, {Name: "v", Kind: api.VText}}, slices.Repeat(wide(), 5)} {
		if Valid(s, p) {
			t.Errorf("%v is valid", s)
		}
		if k, e := NewSeeker(s, p); k != nil || e != api.ErrInvalid {
			t.Errorf("%v: NewSeeker = %v, %d", s, k, e)
		}
		if got, e := Result(s, p); len(got) > 0 || e != api.ErrInvalid {
			t.Errorf("%v: Result = %v, %d", s, got, e)
		}
		if got, e := Order(s, nil); len(got) > 0 || e != api.ErrInvalid {
			t.Errorf("%v: Order = %v, %d", s, got, e)
		}
		invalid(t, "a schema", s, p, nil)
		invalid(t, "a schema", s, p, []api.Event{{Row: make(api.Row, len(s))}})
	}
}

// invalidEvents are events that wide does not have.
func invalidEvents() []api.Event {
	return []api.Event{
		{}, {Row: asRow("1")}, {Row: asRow("1,~,~")}, {Row: asRow("1,2")}, {Row: asRow(`"1","2"`)},
		{Row: api.Row{num(maxInt + 1), {}}}, {Row: api.Row{{Kind: 3}, {}}}, {Row: api.Row{{N: 1}, {}}}, {Row: api.Row{{}, word(strings.Repeat("x", 201))}},
		{Time: maxTime + 1, Row: asRow("1,~")}, {Time: -maxTime - 1, Row: asRow("1,~")}, {Time: math.MaxInt, Row: asRow("1,~")}, {Time: math.MinInt, Row: asRow("1,~")},
	}
}

// Promise 8.1: events that are none, or too many.
func TestInvalidEvents(t *testing.T) {
	p := pattern("within 10 skip 0 / next a {1}")
	for _, bad := range invalidEvents() {
		for _, l := range [][]api.Event{{bad}, {event("0 1,~"), bad}, {bad, event("0 1,~")}} {
			if got, e := Order(wide(), l); len(got) > 0 || e != api.ErrInvalid {
				t.Errorf("%v: Order = %v, %d", l, got, e)
			}
			invalid(t, "events", wide(), p, l)
		}
	}
	most := slices.Repeat([]api.Event{event("0 1,~")}, 40)
	more := append(slices.Clone(most), event("0 2,~"))
	if got, e := Order(wide(), most); len(got) != 40 || e != api.OK {
		t.Errorf("Order of 40 = %v, %d", got, e)
	}
	if got, e := Matches(wide(), p, most); len(got) != 40 || e != api.OK {
		t.Errorf("Matches of 40 = %v, %d", got, e)
	}
	if !IsMatch(wide(), p, most, []int{39}) {
		t.Error("IsMatch of 40")
	}
	if got, e := Order(wide(), more); len(got) > 0 || e != api.ErrInvalid {
		t.Errorf("Order of 41 = %v, %d", got, e)
	}
	invalid(t, "41 events", wide(), p, more)
}

// Promise 8.1: errors in their order: what is not valid, then the size, then the limit.
func TestErrorsInOrder(t *testing.T) {
	all := pattern("within 100 skip 0 / next a {1} / any b {1} / any c {1} / any d {1} / any e {1}")
	tooLong := slices.Repeat([]api.Event{event("0 1,~")}, 41)
	for _, x := range []struct {
		what string
		p    api.Pattern
		l    []api.Event
		e    api.Errno
	}{
		{"a pattern before a size", changed(func(p *api.Pattern) { p.Stages, p.Skip = stages(6), 3 }), nil, api.ErrInvalid},
		{"an event before a size", all, []api.Event{{}}, api.ErrInvalid},
		{"their number before a size", all, tooLong, api.ErrInvalid},
		{"a size before the limit", all, tooLong[1:], api.ErrSize},
		{"the limit", pattern("within 100 skip 0 / next a {1} / any b {1}"), tooLong[1:], api.ErrLimit},
	} {
		if l, e := Rows(wide(), x.p, x.l); len(l) > 0 || e != x.e {
			t.Errorf("%s: %v, %d", x.what, l, e)
		}
	}
	if l, e := Matches(wide(), all, tooLong[1:]); len(l) > 0 || e != api.ErrLimit {
		t.Errorf("%v, %d", l, e)
	}
}
