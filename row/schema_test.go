package row

import (
	"math"
	"slices"
	"strings"
	"testing"

	"tidewright/api"
)

func validSchemas() []api.Schema {
	return []api.Schema{
		{{Name: "k", Kind: api.VText}, {Name: "v_1", Kind: api.VInt}},
		ints("a"), ints("z"), {{Name: "a", Kind: api.VText}}, ints("a0_", "a__9", "a"), ints("a234567890123456"), {{Name: "text", Kind: api.VInt}, {Name: "v", Kind: api.VText}},
		ints("b", "a", "ab", "ba", "aa", "bb", "a1", "b1"),
		{{Name: "a234567890123451", Kind: api.VText}, {Name: "a234567890123452", Kind: api.VInt}},
	}
}

// invalidSchemas are schemas each of which breaks one rule.
func invalidSchemas() []api.Schema {
	l := []api.Schema{
		nil, {}, ints("a", "b", "c", "d", "e", "f", "g", "h", "i"), ints(slices.Repeat([]string{"a"}, 100)...),
		ints("a", "a"), ints("a", "b", "c", "a"), {{Name: "a", Kind: api.VInt}, {Name: "a", Kind: api.VText}},
		{{Name: "a", Kind: api.VNull}}, {{Name: "a", Kind: 3}}, {{Name: "a", Kind: -1}}, {{Name: "a", Kind: math.MaxInt}}, {{Name: "a", Kind: api.VInt}, {Name: "b"}},
	}
	for _, name := range invalidNames() {
		l = append(l, ints(name), ints("k", name))
	}
	return l
}

func invalidNames() []string {
	return []string{"", "A", "kA", "K", "_", "_a", "0", "1a", "a b", " a", "a ", "a-b", "a.b", "a,b", "a\x00", "a\n", "é", "aé", "a\xff", "`", "{", "a`", "a{", "a/", "a:", "a234567890123456x", strings.Repeat("a", 100)}
}

// Promise 2.1.
func TestName(t *testing.T) {
	for _, s := range []string{"a", "z", "az", "a0", "z9", "a_", "a__", "k_1", "int", "text", "abcdefghijklmnop", "a_0123456789_zz"} {
		if !Name(s) {
			t.Errorf("%q is no name", s)
		}
	}
	for _, s := range invalidNames() {
		if Name(s) {
			t.Errorf("%q is a name", s)
		}
	}
	for c := range 256 {
		s := string([]byte{byte(c)})
		letter := strings.Contains("abcdefghijklmnopqrstuvwxyz", s)
		if Name(s) != letter || Name("a"+s) != (letter || strings.Contains("0123456789_", s)) {
			t.Errorf("the byte %d in a name", c)
		}
	}
}

// Promise 2.1.
func TestValidSchema(t *testing.T) {
	for _, s := range validSchemas() {
		if !ValidSchema(s) {
			t.Errorf("%v is not valid", s)
		}
	}
	for _, s := range invalidSchemas() {
		if ValidSchema(s) {
			t.Errorf("%v is valid", s)
		}
	}
}

// Promise 2.1.
func TestFits(t *testing.T) {
	s := api.Schema{{Name: "k", Kind: api.VText}, {Name: "v", Kind: api.VInt}}
	for _, r := range []api.Row{{text("a"), num(1)}, {null(), num(1)}, {text(""), null()}, {null(), null()}} {
		if !Fits(s, r) {
			t.Errorf("%v does not fit", r)
		}
		for _, bad := range invalidSchemas() {
			if Fits(bad, r) {
				t.Errorf("%v fits %v", r, bad)
			}
		}
	}
	for _, r := range []api.Row{
		nil, {text("a")}, {text("a"), num(1), num(1)}, nulls(1), nulls(3), nulls(8), nulls(9),
		{num(1), num(1)}, {text("a"), text("a")}, {num(1), text("a")},
		{text("a"), num(maxInt + 1)}, {text("a"), {N: 1}}, {text("a"), {Kind: 3}}, {{Kind: -1}, num(1)}, {{S: "a"}, num(1)}, {text(strings.Repeat("a", 201)), num(1)},
		{text("a"), {Kind: api.VInt, N: 1, S: "1"}},
	} {
		if Fits(s, r) {
			t.Errorf("%v fits", r)
		}
	}
	for _, r := range []api.Row{nil, {}} {
		if Fits(nil, r) || Fits(api.Schema{}, r) {
			t.Error("a schema without columns is fitted")
		}
	}
	if nine := ints("a", "b", "c", "d", "e", "f", "g", "h", "i"); Fits(nine, nulls(9)) || Fits(ints("a", "a"), nulls(2)) || !Fits(nine[:8], nulls(8)) {
		t.Error("Fits at the edges of a schema")
	}
}

// Promise 2.4, and P2.3 of the same schemas.
func TestFormat(t *testing.T) {
	for _, x := range []struct {
		s    api.Schema
		want string
	}{
		{api.Schema{{Name: "k", Kind: api.VText}, {Name: "v_1", Kind: api.VInt}}, "k text, v_1 int"},
		{ints("a"), "a int"}, {api.Schema{{Name: "a", Kind: api.VText}}, "a text"}, {ints("int", "text"), "int int, text int"},
		{ints("h", "g", "f", "e", "d", "c", "b", "a"), "h int, g int, f int, e int, d int, c int, b int, a int"},
	} {
		if got := Format(x.s); got != x.want {
			t.Errorf("Format(%v) = %q, not %q", x.s, got, x.want)
		}
	}
	for _, s := range validSchemas() {
		if got, e := ParseSchema(Format(s)); !slices.Equal(got, s) || e != api.OK {
			t.Errorf("ParseSchema(%q) = %v, %d, not %v", Format(s), got, e, s)
		}
	}
	for _, s := range invalidSchemas() {
		if got := Format(s); got != "" {
			t.Errorf("Format(%v) = %q", s, got)
		}
	}
}

// Promise 2.4: what is not just such a text.
func TestParseSchemaSyntax(t *testing.T) {
	texts := []string{
		"", " ", ",", ", ", "k", "k ", " int", "int", "k int int", "k real", "k INT", "k Int", "k null", "k in", "k ints", "k  int", "k\tint", "k int ", " k int", "k int\n", "k int\x00", "k,int",
		"k int, k int", "k int, k text", "a int, b int, a int", "K int", "_k int", "1 int", "é int", "a234567890123456x int", "kint", "k:int",
		"k int,", "k int, ", ", k int", ",k int", "k int,v int", "k int,  v int", "k int , v int", "k int; v int", "k int v int", "k int, v", "k int, , v int", "k int,\nv int",
		"a int, b int, c int, d int, e int, f int, g int, h int, i int",
	}
	for _, s := range validSchemas() {
		text := Format(s)
		texts = append(texts, text+" ", " "+text, text+",", text+", ", text+"\n", "("+text+")", text+", "+text, strings.ToUpper(text))
	}
	for _, text := range texts {
		if s, e := ParseSchema(text); len(s) != 0 || e != api.ErrSyntax {
			t.Errorf("ParseSchema(%q) = %v, %d", text, s, e)
		}
	}
}

// Promise 2.4: ErrLong comes before ErrSyntax, and only above MaxText bytes.
func TestParseSchemaLong(t *testing.T) {
	for _, fill := range []string{"x", " ", ",", ", ", "a int, ", "\xff"} {
		text := strings.Repeat(fill, api.MaxText)[:api.MaxText]
		if s, e := ParseSchema(text); len(s) != 0 || e != api.ErrSyntax {
			t.Errorf("%d bytes of %q: %v, %d", len(text), fill, s, e)
		}
		if s, e := ParseSchema(text + text[:1]); len(s) != 0 || e != api.ErrLong {
			t.Errorf("%d bytes of %q: %v, %d", len(text)+1, fill, s, e)
		}
	}
}

// Promise P2.1: what ParseSchema returns is new each time.
func TestParseSchemaNew(t *testing.T) {
	a, _ := ParseSchema("a int, b text")
	b, _ := ParseSchema("a int, b text")
	a[0].Name = "x"
	if Format(b) != "a int, b text" {
		t.Errorf("a schema is now %v", b)
	}
}
