package motif

import (
	"reflect"
	"strconv"
	"strings"
	"testing"

	"tidewright/api"
)

// Promise 8.3.
func TestFormat(t *testing.T) {
	for _, x := range []struct {
		p    api.Pattern
		want string
	}{
		{good(), "within 10 skip 0\nnext a {v > 5}\nthen b {v > a.v} unless {s = a.s}\nany c {s = b.s & a.s} unless {v < b.v + a.v}\n"},
		{api.Pattern{Stages: []api.Stage{{Name: "a", Cond: "1", Follow: api.FNext}}}, "within 0 skip 0\nnext a {1}\n"},
		{api.Pattern{Within: maxSpan, Skip: 2, Stages: []api.Stage{{Name: "x_1", Cond: ` ( v )`, Follow: api.FNext}, {Name: "y", Cond: `v  =1 `, Follow: api.FNext, Unless: ` "\n\"" <w`}}}, "within 1000000000 skip 2\nnext x_1 { ( v )}\nnext y {v  =1 } unless { \"\\n\\\"\" <w}\n"},
		// Whether names are bound, and what kinds there are, is not asked: there is no schema.
		{api.Pattern{Skip: 1, Stages: []api.Stage{{Name: "if", Cond: `"x" & z.z`, Follow: api.FNext}, {Name: "b", Cond: "b.b", Follow: api.FAny, Unless: "1 + s"}}}, "within 0 skip 1\nnext if {\"x\" & z.z}\nany b {b.b} unless {1 + s}\n"},
	} {
		if got := Format(x.p); got != x.want {
			t.Errorf("Format = %q, not %q", got, x.want)
		}
		back, e := Parse(x.want)
		if !reflect.DeepEqual(back, x.p) || e != api.OK {
			t.Errorf("Parse(%q) = %v, %d", x.want, back, e)
		}
	}
}

// Promise 8.3: what can't be written.
func TestUnwritable(t *testing.T) {
	for _, group := range []map[string]func(p *api.Pattern){unformedPatterns(), noExpressions()} {
		for what, change := range group {
			if what == "a word before a column" { // the stage has no such name then
				continue
			}
			if got := Format(changed(change)); got != "" {
				t.Errorf("%s: Format = %q", what, got)
			}
		}
	}
	for _, c := range []string{`s = "{"`, `s = "}"`, `s = "} unless {"`, "v\n", "\nv", "v\n> 1"} {
		if got := Format(changed(func(p *api.Pattern) { p.Stages[0].Cond = c })); got != "" {
			t.Errorf("%q: Format = %q", c, got)
		}
		if got := Format(changed(func(p *api.Pattern) { p.Stages[2].Unless = c })); got != "" {
			t.Errorf("unless %q: Format = %q", c, got)
		}
	}
	if got := Format(api.Pattern{}); got != "" {
		t.Errorf("Format of nothing = %q", got)
	}
}

// Promises 8.3 and P8.6: what is valid for a schema, or for another one, and has no braces in it comes back.
func TestBack(t *testing.T) {
	for _, group := range []map[string]func(p *api.Pattern){validPatterns(), misfits()} {
		for what, change := range group {
			p := changed(change)
			text := Format(p)
			if what == "a brace in a text" {
				if text != "" {
					t.Errorf("%s: Format = %q", what, text)
				}
				continue
			}
			q, e := Parse(text)
			if what == "long" {
				if e != api.ErrLong {
					t.Errorf("%s: Parse %d", what, e)
				}
				continue
			}
			if !reflect.DeepEqual(q, p) || e != api.OK {
				t.Errorf("%s: Parse(%q) = %v, %d", what, text, q, e)
			}
		}
	}
}

// Promise 8.3: other texts.
func TestParse(t *testing.T) {
	for _, text := range []string{
		"", "\n", " ", "within 10 skip 0", "within 10 skip 0\n", "within 10 skip 0\n\n", "next a {1}\n", "\nnext a {1}\n",
		"within 10 skip 0\nnext a {1}", "within 10 skip 0\nnext a {1}\n\n", "\nwithin 10 skip 0\nnext a {1}\n", "within 10 skip 0\n\nnext a {1}\n", "within 10 skip 0\nnext a {1}\nx", "within 10 skip 0\r\nnext a {1}\r\n",
		"within 10 skip 0 \nnext a {1}\n", " within 10 skip 0\nnext a {1}\n", "within  10 skip 0\nnext a {1}\n", "Within 10 skip 0\nnext a {1}\n", "within 10 skips 0\nnext a {1}\n", "within 10\nnext a {1}\n", "within 10 skip\nnext a {1}\n", "within skip 0\nnext a {1}\n", "skip 0 within 10\nnext a {1}\n", "within 10 skip 0 0\nnext a {1}\n",
		"within 010 skip 0\nnext a {1}\n", "within +10 skip 0\nnext a {1}\n", "within -0 skip 0\nnext a {1}\n", "within 1e1 skip 0\nnext a {1}\n", "within x skip 0\nnext a {1}\n", "within 10 skip x\nnext a {1}\n", "within 10 skip 00\nnext a {1}\n",
		"within -1 skip 0\nnext a {1}\n", "within 1000000001 skip 0\nnext a {1}\n", "within 99999999999999999999 skip 0\nnext a {1}\n", "within 10 skip 3\nnext a {1}\n", "within 10 skip -1\nnext a {1}\n",
		"within 10 skip 0\nthen a {1}\n", "within 10 skip 0\nany a {1}\n", "within 10 skip 0\nNext a {1}\n", "within 10 skip 0\n a {1}\n", "within 10 skip 0\na {1}\n", "within 10 skip 0\nlast a {1}\n", "within 10 skip 0\nnext a {1}\nlast b {1}\n", "within 10 skip 0\nnext a {1}\n b {1}\n", "within 10 skip 0\nnext a {1}\nb {1}\n",
		"within 10 skip 0\nnext {1}\n", "within 10 skip 0\nnext  {1}\n", "within 10 skip 0\nnext A {1}\n", "within 10 skip 0\nnext a b {1}\n", "within 10 skip 0\nnext  a {1}\n", "within 10 skip 0\nnext a  {1}\n", "within 10 skip 0\nnext a{1}\n", "within 10 skip 0\nnext a_234567890123456 {1}\n",
		"within 10 skip 0\nnext a\n", "within 10 skip 0\nnext a {}\n", "within 10 skip 0\nnext a {\n", "within 10 skip 0\nnext a {1\n", "within 10 skip 0\nnext a 1}\n", "within 10 skip 0\nnext a (1)\n", "within 10 skip 0\nnext a {v >}\n", "within 10 skip 0\nnext a {1}}\n", "within 10 skip 0\nnext a {{1}}\n", "within 10 skip 0\nnext a {v = \"{}\"}\n", "within 10 skip 0\nnext a {1} \n", "within 10 skip 0\nnext a {1} x\n", "within 10 skip 0\nnext a {v >\n5}\n",
		"within 10 skip 0\nnext a {1} unless {0}\n", "within 10 skip 0\nnext a {1}\nnext b {1} unless {}\n", "within 10 skip 0\nnext a {1}\nnext b {1} unless\n", "within 10 skip 0\nnext a {1}\nnext b {1} unless {\n", "within 10 skip 0\nnext a {1}\nnext b {1} unless {1\n", "within 10 skip 0\nnext a {1}\nnext b {1} unless {1}}\n", "within 10 skip 0\nnext a {1}\nnext b {1} unless {1} unless {1}\n", "within 10 skip 0\nnext a {1}\nnext b {1} if {1}\n", "within 10 skip 0\nnext a {1}\nnext b {1}unless {1}\n", "within 10 skip 0\nnext a {1}\nnext b {1} unless{1}\n", "within 10 skip 0\nnext a {1}\nnext b {1}  unless {1}\n", "within 10 skip 0\nnext a {1}\nnext b unless {1}\n", "within 10 skip 0\nnext a {1}\nnext b {1} unless {v >}\n",
		"within 10 skip 0\nnext a {1}\nnext a {1}\n", "within 10 skip 0\nnext a {1}\nnext b {1}\nany a {1}\n",
		"within 10 skip 0\nnext a {1}\nnext b {1}\nnext c {1}\nnext d {1}\nnext e {1}\nnext f {1}\nnext g {1}\n",
		"within 10 skip 0\nnext a {" + deep(41) + "}\n", "\xff", "within 10 skip 0\nnext a {\xff}\n", "\x00",
	} {
		if p, e := Parse(text); e != api.ErrSyntax || !reflect.DeepEqual(p, api.Pattern{}) {
			t.Errorf("Parse(%q) = %v, %d", text, p, e)
		}
	}
}

// Promise 8.3: a text that is as long as may be, and longer ones, whatever they are.
func TestParseLong(t *testing.T) {
	frame := "within 10 skip 0\nnext a {1}\n"
	text := strings.Replace(frame, "1}", strings.Repeat(" ", api.MaxText-len(frame))+"1}", 1)
	if p, e := Parse(text); len(text) != api.MaxText || Format(p) != text || e != api.OK {
		t.Errorf("a text of %d bytes: %d", len(text), e)
	}
	for _, text := range []string{strings.Replace(text, "{", "{ ", 1), strings.Repeat("x", api.MaxText+1), strings.Repeat("\n", 2*api.MaxText)} {
		if p, e := Parse(text); e != api.ErrLong || !reflect.DeepEqual(p, api.Pattern{}) {
			t.Errorf("a text of %d bytes: %v, %d", len(text), p, e)
		}
	}
	for _, text := range []string{strings.Repeat("x", api.MaxText), strings.Repeat("\n", api.MaxText), strings.Repeat(" ", api.MaxText), strings.Repeat("{", api.MaxText)} {
		if _, e := Parse(text); e != api.ErrSyntax {
			t.Errorf("%q..: %d", text[:1], e)
		}
	}
}

// Promise 8.3: just such texts. Where a byte is changed the text is none any more, or one of another pattern.
func TestChangedBytes(t *testing.T) {
	text := Format(good())
	for i := range text {
		for _, c := range []string{"", " ", "\n", "{", "}", "0", "9", "a", "b", "x", "\"", "\xff"} {
			other := text[:i] + c + text[i+1:]
			p, e := Parse(other)
			if e == api.OK && Format(p) != other || e != api.OK && (e != api.ErrSyntax || !reflect.DeepEqual(p, api.Pattern{})) {
				t.Errorf("Parse(%q) = %v, %d", other, p, e)
			}
			if e == api.OK && other != text && reflect.DeepEqual(p, good()) {
				t.Errorf("%q is another text of the same", other)
			}
		}
	}
}

// Promise 8.3: each name of how a stage follows, with each kind.
func TestFollowWords(t *testing.T) {
	for kind, word := range map[int]string{api.FNext: "next", api.FThen: "then", api.FAny: "any"} {
		p := api.Pattern{Stages: stages(2)}
		p.Stages[1].Follow = kind
		text := "within 0 skip 0\nnext a {1}\n" + word + " b {1}\n"
		if got := Format(p); got != text {
			t.Errorf("%s: %q", strconv.Itoa(kind), got)
		}
		if q, e := Parse(text); !reflect.DeepEqual(q, p) || e != api.OK {
			t.Errorf("Parse(%q) = %v, %d", text, q, e)
		}
	}
}
