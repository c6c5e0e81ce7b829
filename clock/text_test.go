package clock

import (
	"strconv"
	"strings"
	"testing"

	"tidewright/api"
)

// Promise 1.4.
func TestFormat(t *testing.T) {
	for _, x := range []struct {
		s    api.Spec
		want string
	}{
		{tumbling(10, 3), "tumbling 10 3"}, {tumbling(1, 0), "tumbling 1 0"}, {tumbling(maxSpan, maxSpan-1), "tumbling 1000000000 999999999"},
		{sliding(10, 4, 1), "sliding 10 4 1"}, {sliding(50, 1, 0), "sliding 50 1 0"},
		{session(5), "session 5"}, {session(maxSpan), "session 1000000000"},
		{global(), "global"},
	} {
		if got := Format(x.s); got != x.want {
			t.Errorf("Format(%v) = %q, not %q", x.s, got, x.want)
		}
		if s, e := Parse(x.want); s != x.s || e != api.OK {
			t.Errorf("Parse(%q) = %v, %d", x.want, s, e)
		}
	}
	for _, s := range invalidSpecs() {
		if got := Format(s); got != "" {
			t.Errorf("Format(%v) = %q", s, got)
		}
	}
}

// Promise P1.5.
func TestParseOfFormat(t *testing.T) {
	for _, s := range append(validSpecs(), smallSpecs(12)...) {
		text := Format(s)
		if got, e := Parse(text); got != s || e != api.OK {
			t.Errorf("Parse(%q) = %v, %d, not %v", text, got, e, s)
		}
	}
}

// Promise 1.4: what is not just such a text.
func TestParseSyntax(t *testing.T) {
	texts := []string{
		"", " ", "\x00", "5", "tumble 10 0", "Global", "GLOBAL", "globa", "globals", "global 0", "sessions 5", "\xff\xfe",
		"tumbling", "tumbling ", "tumbling 10", "tumbling 10 ", "tumbling 10 0 0", "tumbling 10 10", "tumbling 0 0", "tumbling -10 0", "tumbling 10 -1",
		"tumbling 10\t0", "tumbling\n10 0", "tumbling 1000000001 0", "tumbling 10 5 0",
		"sliding", "sliding 10", "sliding 10 5", "sliding 10 5 0 0", "sliding 10 20 0", "sliding 51 1 0", "sliding 10 0 0", "sliding 10 5 5",
		"session", "session ", "session 0", "session 05", "session 00", "session +5", "session -0", "session -5", "session 1 1", "session 5.0", "session 5e0",
		"session 0x5", "session 1_0", "session five", "session ٥", "session 1000000001", "session 1" + strings.Repeat("0", 30), "session 18446744073709551621",
	}
	for _, s := range validSpecs() {
		text := Format(s)
		texts = append(texts, " "+text, text+" ", text+"\n", "\t"+text, text+"\x00", strings.ToUpper(text), text+" 1")
		if s.Kind != api.WGlobal {
			texts = append(texts, strings.Replace(text, " ", "  ", 1), strings.Replace(text, " ", " 0", 1), strings.Replace(text, " ", " +", 1), strings.Replace(text, " ", ",", 1))
		}
	}
	for _, text := range texts {
		if s, e := Parse(text); s != (api.Spec{}) || e != api.ErrSyntax {
			t.Errorf("Parse(%q) = %v, %d", text, s, e)
		}
	}
}

// Promise 1.4: ErrLong comes before ErrSyntax, and only above MaxText bytes.
func TestParseLong(t *testing.T) {
	for _, fill := range []string{"x", " ", "0", "\xff"} {
		if s, e := Parse(strings.Repeat(fill, api.MaxText)); s != (api.Spec{}) || e != api.ErrSyntax {
			t.Errorf("%d times %q: %v, %d", api.MaxText, fill, s, e)
		}
		if s, e := Parse(strings.Repeat(fill, api.MaxText+1)); s != (api.Spec{}) || e != api.ErrLong {
			t.Errorf("%d times %q: %v, %d", api.MaxText+1, fill, s, e)
		}
	}
	if s, e := Parse("global" + strings.Repeat(" ", api.MaxText)); s != (api.Spec{}) || e != api.ErrLong {
		t.Errorf("a long text that begins well: %v, %d", s, e)
	}
}

// Promise 1.4: of all short texts of a kind just those of valid specs are read.
func TestParseNumbers(t *testing.T) {
	for a := -2; a <= 12; a++ {
		for b := -2; b <= 12; b++ {
			for c := -2; c <= 12; c++ {
				s := sliding(a, b, c)
				text := "sliding " + strconv.Itoa(a) + " " + strconv.Itoa(b) + " " + strconv.Itoa(c)
				got, e := Parse(text)
				if ValidSpec(s) && (got != s || e != api.OK) || !ValidSpec(s) && (got != api.Spec{} || e != api.ErrSyntax) {
					t.Errorf("Parse(%q) = %v, %d", text, got, e)
				}
			}
		}
	}
}
