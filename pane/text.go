package pane

import (
	"strconv"
	"strings"

	"tidewright/api"
	"tidewright/bag"
	"tidewright/clock"
	"tidewright/row"
)

// Text returns all that the group is: lines with its setup, with the mark and how many windows there are, and for each window with its numbers, with what it gave last, if it did, and with its contents.
func (p *Panes) Text() string {
	if !p.made() {
		return ""
	}
	var text strings.Builder
	text.WriteString(p.Setup.text())
	text.WriteString(numbersLine(p.now, len(p.windows)))
	for _, w := range p.Windows() {
		s := p.windows[w]
		text.WriteString(numbersLine(w.From, w.To, s.next, s.had, s.last.Kind, len(s.contents)))
		if s.gave() {
			text.WriteString(row.Text(s.last.Row) + "\n")
		}
		text.WriteString(bag.Format(s.contents))
	}
	return text.String()
}

// Restore makes the group go on as the one of the same setup whose Text text is.
func (p *Panes) Restore(text string) api.Errno {
	if !p.made() {
		return api.ErrInvalid
	}
	q := read(p.Setup, text)
	// A group has one text only: whatever is no number or row, or is not in its place or form, does not come out again.
	if q == nil || q.Text() != text {
		return api.ErrSyntax
	}
	p.now, p.windows = q.now, q.windows
	return api.OK
}

// text returns the lines of a setup.
func (s Setup) text() string {
	numbers := []int{s.Columns, s.Lateness, s.Mode, s.Early}
	for _, a := range s.Aggs {
		numbers = append(numbers, a.Kind, a.Column)
	}
	return clock.Format(s.Spec) + "\n" + numbersLine(numbers...)
}

func numbersLine(numbers ...int) string {
	words := make([]string, len(numbers))
	for i, n := range numbers {
		words[i] = strconv.Itoa(n)
	}
	return strings.Join(words, " ") + "\n"
}

// reader reads the lines of a text.
type reader struct{ rest string }

func (r *reader) line() string {
	line, rest, _ := strings.Cut(r.rest, "\n")
	r.rest = rest
	return line
}

// numbers reads a line of count numbers. What is none, or one too many, is not asked here.
func (r *reader) numbers(count int) []int {
	words := append(strings.Split(r.line(), " "), make([]string, count)...)
	l := make([]int, count)
	for i := range l {
		l[i], _ = strconv.Atoi(words[i])
	}
	return l
}

// items reads the lines of count items of a bag, or those before one that is none.
func (r *reader) items(count int) api.Bag {
	var l api.Bag
	for range count {
		// One by one, as a bag's text may be longer than what can be read at once.
		b, _, e := bag.Parse(r.line() + "\n")
		if e != api.OK {
			break
		}
		l = append(l, b...)
	}
	return l
}

// window reads a window, and what a group keeps of it.
func (r *reader) window() (api.Window, *state) {
	n := r.numbers(6)
	w, s := api.Window{From: n[0], To: n[1]}, &state{next: n[2], had: n[3]}
	if kind := n[4]; kind != 0 {
		told, _ := row.Parse(r.line())
		s.last = api.Pane{Window: w, Kind: kind, Number: s.next - 1, Row: told}
	}
	s.contents = r.items(n[5])
	return w, s
}

// read returns the group of a setup that a text tells; nil if there can't be such a one.
func read(setup Setup, text string) *Panes {
	p, _ := New(setup)
	r := &reader{rest: strings.TrimPrefix(text, setup.text())}
	n := r.numbers(2)
	p.now = n[0]
	if !within(p.now, none, greatest) || n[1] > api.MaxRows {
		return nil
	}
	for range n[1] {
		w, s := r.window()
		if !p.takes(w) || !p.keeps(w, s) {
			return nil
		}
		p.windows[w] = s
	}
	return p
}
