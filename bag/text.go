package bag

import (
	"strconv"
	"strings"

	"tidewright/api"
	"tidewright/row"
)

// Format writes a bag, each item in a line; the empty string if it is not valid.
func Format(b api.Bag) string {
	if !Valid(b) {
		return ""
	}
	var text strings.Builder
	for _, item := range b {
		text.WriteString(lineOf(item))
	}
	return text.String()
}

// Parse reads a text that Format writes of a valid bag. With ErrSyntax, line is the first line up to which the text is not the beginning of one.
func Parse(text string) (b api.Bag, line int, e api.Errno) {
	if len(text) > api.MaxText {
		return nil, 0, api.ErrLong
	}
	for s := range strings.Lines(text) {
		item, ok := readLine(s)
		if !ok || !follows(b, item) {
			return nil, len(b), api.ErrSyntax
		}
		b = append(b, item)
	}
	return b, 0, api.OK
}

// lineOf returns the line of an item.
func lineOf(item api.Item) string {
	return strconv.Itoa(item.N) + " " + row.Text(item.Row) + "\n"
}

// readLine reads a line, and reports whether it is that of an item, whose number may be beyond the limits.
func readLine(line string) (api.Item, bool) {
	number, text, _ := strings.Cut(strings.TrimSuffix(line, "\n"), " ")
	n, err := strconv.Atoi(number)
	r, e := row.Parse(text)
	if err != nil || e != api.OK {
		return api.Item{}, false
	}
	item := api.Item{Row: r, N: n}
	// An item has one line only: what is read beside it (a plus, leading zeros, no blank, no line feed at the end) does not come out again.
	return item, lineOf(item) == line
}
