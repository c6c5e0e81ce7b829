package motif

import (
	"slices"
	"strconv"
	"strings"

	"tidewright/api"
	"tidewright/mark"
	"tidewright/row"
)

// Text returns all that the seeker is: lines with its schema and its pattern, one with its numbers and how many events it holds, and one for each of these.
func (k *Seeker) Text() string {
	if !k.made() {
		return ""
	}
	var text strings.Builder
	text.WriteString(k.head())
	for i, n := range []int{k.now, k.told, k.ended, k.free, len(k.events)} {
		if i > 0 {
			text.WriteString(" ")
		}
		text.WriteString(strconv.Itoa(n))
	}
	text.WriteString("\n")
	for _, x := range k.events {
		text.WriteString(strconv.Itoa(x.Time) + " " + row.Text(x.Row) + "\n")
	}
	return text.String()
}

// Restore makes the seeker go on as the one of the same pattern whose Text text is.
func (k *Seeker) Restore(text string) api.Errno {
	if !k.made() {
		return api.ErrInvalid
	}
	q := k.read(text)
	// A seeker has one text only: whatever is no number or row, or is not in its place or form, does not come out again.
	if !q.isPossible() || q.Text() != text {
		return api.ErrSyntax
	}
	*k = *q
	return api.OK
}

// head returns the lines of the schema and the pattern.
func (k *Seeker) head() string {
	return row.Format(k.schema) + "\n" + written(k.pattern)
}

// read returns the seeker of the same pattern that a text tells, if it tells one.
func (k *Seeker) read(text string) *Seeker {
	numbers, events, _ := strings.Cut(strings.TrimPrefix(text, k.head()), "\n")
	n := append(numbersIn(numbers), make([]int, 4)...)
	q := &Seeker{schema: k.schema, pattern: k.pattern, now: n[0], told: n[1], ended: n[2], free: n[3]}
	for line := range strings.Lines(events) {
		time, values, _ := strings.Cut(strings.TrimSuffix(line, "\n"), " ")
		r, _ := row.Parse(values)
		q.events = append(q.events, api.Event{Time: number(time), Row: r})
	}
	return q
}

// isPossible reports whether a seeker can have come to be k.
func (k *Seeker) isPossible() bool {
	if !within(k.now, none, greatest) || !within(k.told, len(k.events), maxEvents) || !k.holds() {
		return false
	}
	matches, e := k.below(k.now)
	if e != api.OK || !within(k.ended, len(matches), api.MaxRows) {
		return false
	}
	// The other matches that have ended began with events that are gone.
	gone, others := k.told > len(k.events), k.ended > len(matches)
	if gone && !k.isGone(api.Event{Time: none}, k.now) || others && !gone {
		return false
	}
	// So did the match that has told last, within whose events no other one may begin.
	below := k.count(func(x api.Event) bool { return mark.Late(x.Time, k.now) })
	return k.free == 0 || k.pattern.Skip == 1 && others && within(k.free, 1, below)
}

// holds reports whether its events are such as a seeker holds at its mark.
func (k *Seeker) holds() bool {
	isGone := func(x api.Event) bool { return k.isGone(x, k.now) }
	return areEvents(k.schema, k.events) && slices.IsSortedFunc(k.events, compare) && !slices.ContainsFunc(k.events, isGone)
}
