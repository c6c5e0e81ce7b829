package row

import (
	"strconv"
	"strings"

	"tidewright/api"
)

// The first number of an FNV-1a hash of 64 bits, and what it is multiplied by for each byte.
const (
	hashStart  = 14695981039346656037
	hashFactor = 1099511628211
)

const hexDigits = "0123456789abcdef"

// Text returns the canonical text of a row; the empty text if it is not valid.
func Text(r api.Row) string {
	if !Valid(r) {
		return ""
	}
	var text []byte
	for i, v := range r {
		if i > 0 {
			text = append(text, ',')
		}
		text = appendValue(text, v)
	}
	return string(text)
}

// Parse reads a text that Text writes.
func Parse(text string) (api.Row, api.Errno) {
	if len(text) > api.MaxText {
		return nil, api.ErrLong
	}
	in := reader{rest: text}
	r, ok := in.row()
	// A row has one text only: what the reader takes beside it (leading zeros, bytes in a longer form, too great numbers) does not come out again.
	if !ok || Text(r) != text {
		return nil, api.ErrSyntax
	}
	return r, api.OK
}

// Hash returns the 64-bit FNV-1a hash of a text.
func Hash(text string) uint64 {
	hash := uint64(hashStart)
	for i := range len(text) {
		hash ^= uint64(text[i])
		hash *= hashFactor
	}
	return hash
}

func appendValue(text []byte, v api.Value) []byte {
	switch v.Kind {
	case api.VInt:
		return strconv.AppendInt(text, int64(v.N), 10)
	case api.VText:
		return appendQuoted(text, v.S)
	}
	return append(text, '~')
}

func appendQuoted(text []byte, s string) []byte {
	text = append(text, '"')
	for i := range len(s) {
		switch c := s[i]; {
		case c == '"', c == '\\':
			text = append(text, '\\', c)
		case c == '\n':
			text = append(text, '\\', 'n')
		case c < 32, c > 126:
			text = append(text, '\\', 'x', hexDigits[c>>4], hexDigits[c&15])
		default:
			text = append(text, c)
		}
	}
	return append(text, '"')
}

// reader reads all texts of rows, and some that are not: it is left to Parse to find those.
type reader struct {
	rest string // what is still to be read
}

// row reads values to the end of the text.
func (in *reader) row() (api.Row, bool) {
	var r api.Row
	if in.rest == "" {
		return r, true
	}
	for len(r) < api.MaxColumns {
		v, ok := in.value()
		if !ok {
			return nil, false
		}
		r = append(r, v)
		if in.rest == "" {
			return r, true
		}
		if !in.take(",") {
			return nil, false
		}
	}
	return nil, false
}

// value reads a value of the first kind that the text can be read as.
func (in *reader) value() (api.Value, bool) {
	kinds := [...]func(in *reader) (api.Value, bool){(*reader).null, (*reader).number, (*reader).quoted}
	for _, read := range kinds {
		if v, ok := read(in); ok {
			return v, true
		}
	}
	return api.Value{}, false
}

func (in *reader) null() (api.Value, bool) {
	return api.Value{}, in.take("~")
}

func (in *reader) number() (api.Value, bool) {
	digits, _, _ := strings.Cut(in.rest, ",")
	n, err := strconv.Atoi(digits)
	if err != nil {
		return api.Value{}, false
	}
	in.rest = in.rest[len(digits):]
	return api.Value{Kind: api.VInt, N: n}, true
}

func (in *reader) quoted() (api.Value, bool) {
	if !in.take(`"`) {
		return api.Value{}, false
	}
	var s []byte
	for !in.take(`"`) {
		c, ok := in.char()
		if !ok {
			return api.Value{}, false
		}
		s = append(s, c)
	}
	return api.Value{Kind: api.VText, S: string(s)}, true
}

// char reads a byte of a text between quotes, in whichever form it has.
func (in *reader) char() (byte, bool) {
	switch {
	case in.take(`\n`):
		return '\n', true
	case in.take(`\x`):
		return in.hex()
	}
	in.take(`\`) // the byte behind it stands for itself
	s, ok := in.next(1)
	if !ok {
		return 0, false
	}
	return s[0], true
}

// hex reads a byte from two hexadecimal digits.
func (in *reader) hex() (byte, bool) {
	s, ok := in.next(2)
	if !ok {
		return 0, false
	}
	n, err := strconv.ParseUint(s, 16, 8)
	if err != nil {
		return 0, false
	}
	return byte(n), true
}

// next reads a number of bytes, whatever they are.
func (in *reader) next(count int) (string, bool) {
	if len(in.rest) < count {
		return "", false
	}
	s := in.rest[:count]
	in.rest = in.rest[count:]
	return s, true
}

// take reads what the rest begins with, if it is s, and reports whether it is.
func (in *reader) take(s string) bool {
	rest, ok := strings.CutPrefix(in.rest, s)
	in.rest = rest
	return ok
}
