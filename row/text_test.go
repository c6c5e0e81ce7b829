package row

import (
	"hash/fnv"
	"math/rand"
	"slices"
	"strconv"
	"strings"
	"testing"

	"tidewright/api"
)

// Promise 2.2, and P2.3 of the same rows.
func TestText(t *testing.T) {
	for _, x := range []struct {
		r    api.Row
		want string
	}{
		{nil, ""}, {api.Row{}, ""},
		{api.Row{null()}, `~`}, {api.Row{null(), null()}, `~,~`},
		{api.Row{num(0)}, `0`}, {api.Row{num(-5)}, `-5`}, {api.Row{num(10), num(-1)}, `10,-1`},
		{api.Row{num(maxInt), num(-maxInt)}, `1000000000000000,-1000000000000000`},
		{api.Row{text("")}, `""`}, {api.Row{text("a")}, `"a"`}, {api.Row{text("~")}, `"~"`}, {api.Row{text("1,2"), num(1)}, `"1,2",1`},
		{api.Row{null(), num(-5), text(`a"b`)}, `~,-5,"a\"b"`},
		{api.Row{text(`\`), text(`\\`), text(`\n`), text(`"`)}, `"\\","\\\\","\\n","\""`},
		{api.Row{text("\n"), text("\r\n\t"), text("\x00\x1f")}, `"\n","\x0d\n\x09","\x00\x1f"`},
		{api.Row{text(" !~"), text("\x7e\x7f\x80\xff"), text("é")}, `" !~","~\x7f\x80\xff","\xc3\xa9"`},
		{api.Row{text("\xab\xcd\xef")}, `"\xab\xcd\xef"`},
		{nulls(api.MaxColumns), `~,~,~,~,~,~,~,~`},
		{api.Row{text(strings.Repeat("x", api.MaxString))}, `"` + strings.Repeat("x", api.MaxString) + `"`},
		{api.Row{text(strings.Repeat("\x01", api.MaxString))}, `"` + strings.Repeat(`\x01`, api.MaxString) + `"`},
	} {
		if got := Text(x.r); got != x.want {
			t.Errorf("Text(%v) = %s, not %s", x.r, got, x.want)
		}
		if got, e := Parse(x.want); !slices.Equal(got, x.r) || e != api.OK {
			t.Errorf("Parse(%s) = %v, %d", x.want, got, e)
		}
	}
	for _, r := range invalidRows() {
		if got := Text(r); got != "" {
			t.Errorf("Text(%v) = %s", r, got)
		}
	}
}

// Promise 2.2: the form of each single byte, written out as the document says it.
func TestTextOfBytes(t *testing.T) {
	for c := range 256 {
		s := string([]byte{byte(c)})
		want := s
		switch {
		case c == '"':
			want = `\"`
		case c == '\\':
			want = `\\`
		case c == '\n':
			want = `\n`
		case c < 16:
			want = `\x0` + strconv.FormatInt(int64(c), 16)
		case c < 32 || c > 126:
			want = `\x` + strconv.FormatInt(int64(c), 16)
		}
		want = `"` + want + `"`
		if got := Text(api.Row{text(s)}); got != want {
			t.Errorf("the byte %d: %s, not %s", c, got, want)
		}
		for _, form := range []string{s, `\` + s, `\x` + string([]byte{hexDigits[c>>4], hexDigits[c&15]})} {
			got, e := Parse(`"` + form + `"`)
			if `"`+form+`"` == want {
				if !slices.Equal(got, api.Row{text(s)}) || e != api.OK {
					t.Errorf("Parse of %q = %v, %d", form, got, e)
				}
			} else if form != `\n` && (len(got) != 0 || e != api.ErrSyntax) { // the n behind a backslash is a line feed
				t.Errorf("Parse of %q = %v, %d", form, got, e)
			}
		}
	}
}

// Promise P2.3.
func TestParseOfText(t *testing.T) {
	seen := map[string]api.Row{}
	for _, r := range append(validRows(), drawnRows(2000)...) {
		s := Text(r)
		if got, e := Parse(s); !slices.Equal(got, r) || e != api.OK {
			t.Fatalf("Parse(%s) = %v, %d, not %v", s, got, e, r)
		}
		if before, ok := seen[s]; ok && !slices.Equal(before, r) {
			t.Fatalf("%v and %v have the text %s", before, r, s)
		}
		seen[s] = r
	}
}

// drawnRows are rows of few different bytes and numbers, so that rows that look alike are among them.
func drawnRows(count int) []api.Row {
	draw := rand.New(rand.NewSource(2))
	const bytes = "\"\\\n,~nx0a\x01\xff"
	var rows []api.Row
	for range count {
		r := make(api.Row, draw.Intn(api.MaxColumns+1))
		for i := range r {
			switch draw.Intn(3) {
			case 0:
				r[i] = num(draw.Intn(23) - 11)
			case 1:
				s := make([]byte, draw.Intn(6))
				for j := range s {
					s[j] = bytes[draw.Intn(len(bytes))]
				}
				r[i] = text(string(s))
			}
		}
		rows = append(rows, r)
	}
	return rows
}

// Promise 2.2: what is not just such a text.
func TestParseSyntax(t *testing.T) {
	long := strings.Repeat("x", api.MaxString)
	texts := []string{
		",", "1,", ",1", "1,,1", "~,", "~,,~", "\"a\",", "1,1,1,1,1,1,1,1,1", "~,~,~,~,~,~,~,~,", "1;1", "1 ,1", "1, 1",
		" ", " 1", "1 ", "~ ", " ~", "\n", "1\n", "\x00", "\"a\" ", "\t~",
		"~~", "~1", "1~", "~\"a\"", "\"a\"~", "\"a\"\"b\"", "\"a\"b", "a\"b\"", "1\"a\"", "\"a\"1",
		"-", "-0", "--1", "00", "01", "-01", "+1", "+0", "1-", "1.0", "1e3", "0x1", "1_000", "١", "½", "a", "null", "NaN",
		"1000000000000001", "-1000000000000001", "10000000000000000", "9223372036854775807", "-9223372036854775808", "9223372036854775808", "18446744073709551617", "1" + strings.Repeat("0", 60), strings.Repeat("0", 60) + "1",
		`"`, `"a`, `a"`, `"""`, `"\"`, `"a\`, `"\`, `"\x`, `"\x0`, `"\x01`, `'a'`, "`a`",
		`"\q"`, `"\N"`, `"\t"`, `"\r"`, `"\0"`, `"\'"`, `"\,"`, `"\u0041"`, `"\101"`,
		`"\x"`, `"\x1"`, `"\x0g"`, `"\xg0"`, `"\x 1"`, `"\x+1"`, `"\x-1"`, `"\X01"`, `"\xFF"`, `"\xfF"`, `"\x0A"`, `"\x0a"`, `"\x41"`, `"\x20"`, `"\x7e"`, `"\x22"`, `"\x5c"`, `"\x1F"`, `"\x_1"`,
		"\"\n\"", "\"\x00\"", "\"\x1f\"", "\"\x7f\"", "\"\x80\"", "\"\xff\"", "\"é\"", "\"\t\"",
		`"` + long + `x"`, `"` + strings.Repeat(`\x01`, api.MaxString+1) + `"`, `1,"` + long + `x"`, `"` + long,
	}
	for _, s := range []string{"~", "-5", `"a"`, `~,-5,"a\"b"`} {
		texts = append(texts, s+",", ","+s, s+"\n", " "+s, s+"\x00", "["+s+"]", s+","+strings.Repeat("~,", api.MaxColumns)+"~")
	}
	for _, s := range texts {
		if r, e := Parse(s); len(r) != 0 || e != api.ErrSyntax {
			t.Errorf("Parse(%q) = %v, %d", s, r, e)
		}
	}
}

// Promise 2.2: of all short texts over some bytes, just those that Text writes are read.
func TestParseShort(t *testing.T) {
	const bytes = "~-01,\"\\nxa "
	var try func(s string)
	try = func(s string) {
		r, e := Parse(s)
		if e == api.OK && (!Valid(r) || Text(r) != s) || e != api.OK && (e != api.ErrSyntax || len(r) != 0) {
			t.Fatalf("Parse(%q) = %v, %d", s, r, e)
		}
		for i := 0; i < len(bytes) && len(s) < 5; i++ {
			try(s + bytes[i:i+1])
		}
	}
	try("")
}

// Promise 2.2: ErrLong comes before ErrSyntax, and only above MaxText bytes.
func TestParseLong(t *testing.T) {
	for _, fill := range []string{"x", "1", "~", ",", "~,", `"`, `\`, "\xff", " "} {
		s := strings.Repeat(fill, api.MaxText)[:api.MaxText]
		if r, e := Parse(s); len(r) != 0 || e != api.ErrSyntax {
			t.Errorf("%d bytes of %q: %v, %d", len(s), fill, r, e)
		}
		if r, e := Parse(s + s[:1]); len(r) != 0 || e != api.ErrLong {
			t.Errorf("%d bytes of %q: %v, %d", len(s)+1, fill, r, e)
		}
	}
}

// Promise P2.1: what Parse returns is new each time.
func TestParseNew(t *testing.T) {
	a, _ := Parse("1,2")
	b, _ := Parse("1,2")
	a[0] = num(5)
	if b[0] != num(1) {
		t.Errorf("a row is now %v", b)
	}
}

// Promise 2.2, against the hash of Go's own library.
func TestHash(t *testing.T) {
	for _, x := range []struct {
		text string
		want uint64
	}{{"", 14695981039346656037}, {"a", 12638187200555641996}, {"foobar", 0x85944171f73967e8}} {
		if got := Hash(x.text); got != x.want {
			t.Errorf("Hash(%q) = %d, not %d", x.text, got, x.want)
		}
	}
	texts := []string{"\x00", "\xff", "\xff\x00\xff", "é", strings.Repeat("a", 100000)}
	for _, r := range validRows() {
		texts = append(texts, Text(r))
	}
	for _, s := range texts {
		h := fnv.New64a()
		h.Write([]byte(s))
		if got := Hash(s); got != h.Sum64() {
			t.Errorf("Hash(%q) = %d, not %d", s, got, h.Sum64())
		}
	}
}
