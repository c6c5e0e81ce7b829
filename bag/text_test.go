package bag

import (
	"strings"
	"testing"

	"tidewright/api"
)

// Promise 3.4.
func TestFormat(t *testing.T) {
	for _, x := range []struct {
		b    api.Bag
		want string
	}{
		{nil, ""}, {api.Bag{}, ""}, {of("3 "), "3 \n"}, {of("-1 1"), "-1 1\n"}, {of("2 1; -1 2,~; 1000000 \"a b\""), "2 1\n-1 2,~\n1000000 \"a b\"\n"},
		{api.Bag{{Row: api.Row{text("a\n1 \"")}, N: 1}}, "1 \"a\\n1 \\\"\"\n"}, {of("1 ; 1 ~; -1000000 ~,-5,\"a\""), "1 \n1 ~\n-1000000 ~,-5,\"a\"\n"},
	} {
		if got := Format(x.b); got != x.want {
			t.Errorf("Format(%v) = %q, not %q", x.b, got, x.want)
		}
		if b, line, e := Parse(x.want); !Same(b, x.b) || line != 0 || e != api.OK {
			t.Errorf("Parse(%q) = %v, %d, %d", x.want, b, line, e)
		}
	}
	for i, b := range invalidBags() {
		if got := Format(b); got != "" {
			t.Errorf("Format of bag %d, which is not valid = %q", i, got)
		}
	}
}

// Promise P3.5.
func TestParseOfFormat(t *testing.T) {
	d := newDraws(9)
	bags := validBags()
	for range 1000 {
		bags = append(bags, d.bag())
	}
	for _, b := range bags {
		if got, line, e := Parse(Format(b)); !Same(got, b) || line != 0 || e != api.OK {
			t.Fatalf("Parse(%q) = %v, %d, %d", Format(b), got, line, e)
		}
	}
}

// Promise 3.4: the first line with which no such text begins.
func TestParseSyntax(t *testing.T) {
	for _, x := range []struct {
		text string
		line int
	}{
		{"1 1", 0}, {"1 ", 0}, {"1", 0}, {"-", 0}, {"\n", 0}, {" ", 0}, {" \n", 0}, {"x", 0}, {"1\n", 0}, {"1 1\r\n", 0}, {"1 1 \n", 0}, {" 1 1\n", 0}, {"1  1\n", 0}, {"1\t1\n", 0}, {"\x00", 0}, {"1 1\x00\n", 0},
		{"0 1\n", 0}, {"-0 1\n", 0}, {"+1 1\n", 0}, {"01 1\n", 0}, {"-01 1\n", 0}, {"--1 1\n", 0}, {"1.0 1\n", 0}, {"1e3 1\n", 0}, {"0x1 1\n", 0}, {"1_0 1\n", 0}, {"x 1\n", 0}, {"\"1\" 1\n", 0}, {"- 1\n", 0},
		{"1000001 1\n", 0}, {"-1000001 1\n", 0}, {"2000000 1\n", 0}, {"99999999999999999999 1\n", 0}, {"-99999999999999999999 1\n", 0}, {"18446744073709551617 1\n", 0}, {"9223372036854775807 1\n", 0},
		{"1 01\n", 0}, {"1 -0\n", 0}, {"1 a\n", 0}, {"1 ,\n", 0}, {"1 1,\n", 0}, {"1 \"a\n", 0}, {"1 \"\\x41\"\n", 0}, {"1 1000000000000001\n", 0}, {"1 1,1,1,1,1,1,1,1,1\n", 0}, {"1 \"" + strings.Repeat("x", 201) + "\"\n", 0}, {"1 \"é\"\n", 0},
		{"1 1\n1 1\n", 1}, {"1 2\n1 1\n", 1}, {"1 1\n1 2", 1}, {"1 1\n\n", 1}, {"1 1\n\n1 2\n", 1}, {"1 1\nx", 1}, {"1 1\n ", 1}, {"1 1\n1 2\n0 3\n", 2}, {"1 1\n1 3\n1 2\n1 4\n", 2}, {"1 ~\n1 \n", 1}, {"1 \n1 \n", 1}, {"1 1,~\n1 1\n", 1}, {"1 \"a\"\n1 1\n", 1}, {"1 9\n1 10\n1 9\nx", 2},
		{"x\n1 1\n", 0}, {"1 2\n1 x\n1 1\n", 1}, {"1 1\n1 2\n1 3", 2}, {"1 2\n1 1", 1},
		{Format(many(0, 400, 1)) + "1 400\n", 400}, {Format(many(0, 400, 1)) + "\n", 400}, {Format(many(0, 400, 1)) + "x", 400}, {Format(many(0, 399, 1)) + "1 399", 399},
	} {
		if b, line, e := Parse(x.text); len(b) != 0 || line != x.line || e != api.ErrSyntax {
			t.Errorf("Parse(%q) = %v, %d, %d", x.text, b, line, e)
		}
	}
}

// Promise 3.4: of all short texts over some bytes, just those that Format writes are read, and each line that is told is the first up to which none of those begins so.
func TestParseShort(t *testing.T) {
	const bytes = "01- \n\"~"
	const most = 7
	begin := map[string]bool{"": true} // with what lines, that end, a text of a bag begins
	var texts []string
	var try func(s string)
	try = func(s string) {
		if b, line, e := Parse(s); e == api.OK {
			if !Valid(b) || Format(b) != s || line != 0 {
				t.Fatalf("Parse(%q) = %v, %d", s, b, line)
			}
			begin[s] = true
		} else {
			texts = append(texts, s)
		}
		for i := 0; i < len(bytes) && len(s) < most; i++ {
			try(s + bytes[i:i+1])
		}
	}
	try("")
	for _, s := range texts {
		b, line, e := Parse(s)
		want := 0
		for before := ""; ; want++ {
			end := strings.Index(s[len(before):], "\n") + 1
			if before += s[len(before) : len(before)+end]; end == 0 || !begin[before] {
				break
			}
		}
		if len(b) != 0 || line != want || e != api.ErrSyntax {
			t.Fatalf("Parse(%q) = %v, %d, %d, not the line %d", s, b, line, e, want)
		}
	}
}

// Promise 3.4: ErrLong comes before ErrSyntax, only above MaxText bytes, and with no line.
func TestParseLong(t *testing.T) {
	for _, fill := range []string{"x", "1 1\n", "\n", " ", "1", "\xff"} {
		s := strings.Repeat(fill, api.MaxText)[:api.MaxText]
		want := 0
		if fill == "1 1\n" {
			want = 1
		}
		if b, line, e := Parse(s); len(b) != 0 || line != want || e != api.ErrSyntax {
			t.Errorf("%d bytes of %q: %v, %d, %d", len(s), fill, b, line, e)
		}
		if b, line, e := Parse(s + s[:1]); len(b) != 0 || line != 0 || e != api.ErrLong {
			t.Errorf("%d bytes of %q: %v, %d, %d", len(s)+1, fill, b, line, e)
		}
	}
	for more := range 2 { // a bag's text of just MaxText bytes, and one byte more
		b := textBag(api.MaxText + more)
		want, wantE := b, api.OK
		if more > 0 {
			want, wantE = nil, api.ErrLong
		}
		if got, line, e := Parse(Format(b)); len(Format(b)) != api.MaxText+more || !Same(got, want) || line != 0 || e != wantE {
			t.Errorf("%d bytes: %d rows, %d, %d", len(Format(b)), len(got), line, e)
		}
	}
}

// textBag returns a bag whose text has so many bytes, in lines of 200 and a last one of what is left.
func textBag(size int) api.Bag {
	var b api.Bag
	for left := size; left > 0; {
		line := min(left, 200)
		fill := strings.Repeat("x", line-len("1 1000,\"\"\n"))
		b = append(b, api.Item{Row: api.Row{num(1000 + len(b)), text(fill)}, N: 1})
		left -= line
	}
	return b
}
