package motif

import (
	"strconv"
	"strings"

	"tidewright/api"
	"tidewright/calc"
)

// words are those for how a stage follows the one before.
var words = [...]string{api.FNext: "next", api.FThen: "then", api.FAny: "any"}

// Format writes a pattern; the empty string if it is none for any schema, or can't be written.
func Format(p api.Pattern) string {
	if !formed(p) {
		return ""
	}
	for _, stage := range p.Stages {
		if !isWritable(stage.Cond) || stage.Unless != "" && !isWritable(stage.Unless) {
			return ""
		}
	}
	return written(p)
}

// Parse reads what Format writes.
func Parse(text string) (api.Pattern, api.Errno) {
	if len(text) > api.MaxText {
		return api.Pattern{}, api.ErrLong
	}
	// A pattern has one text only: whatever is none, or is not in its place or form, does not come out again.
	p := read(text)
	if text == "" || Format(p) != text {
		return api.Pattern{}, api.ErrSyntax
	}
	return p, api.OK
}

// isWritable reports whether a text is an expression that can stand between braces in a line.
func isWritable(text string) bool {
	return calc.Valid(text) && !strings.ContainsAny(text, "{}\n")
}

// written writes a pattern that is formed.
func written(p api.Pattern) string {
	var text strings.Builder
	text.WriteString("within " + strconv.Itoa(p.Within) + " skip " + strconv.Itoa(p.Skip) + "\n")
	for _, stage := range p.Stages {
		text.WriteString(words[stage.Follow] + " " + stage.Name + " {" + stage.Cond + "}")
		if stage.Unless != "" {
			text.WriteString(" unless {" + stage.Unless + "}")
		}
		text.WriteString("\n")
	}
	return text.String()
}

// read returns the pattern that a text tells, if it tells one.
func read(text string) api.Pattern {
	head, rest, _ := strings.Cut(text, "\n")
	n := append(numbersIn(head), make([]int, 4)...)
	p := api.Pattern{Within: n[1], Skip: n[3]}
	for line := range strings.Lines(rest) {
		p.Stages = append(p.Stages, readStage(line))
	}
	return p
}

// readStage returns the stage that a line tells.
func readStage(line string) api.Stage {
	head, rest, _ := strings.Cut(line, " {")
	word, name, _ := strings.Cut(head, " ")
	cond, rest, _ := strings.Cut(rest, "}")
	_, rest, _ = strings.Cut(rest, "{")
	unless, _, _ := strings.Cut(rest, "}")
	return api.Stage{Name: name, Cond: cond, Follow: following(word), Unless: unless}
}

// following returns the kind of following that a word stands for; 0 if it stands for none.
func following(word string) int {
	for kind, w := range words {
		if w == word {
			return kind
		}
	}
	return 0
}

// numbersIn returns the numbers that the words of a line are.
func numbersIn(line string) []int {
	var l []int
	for word := range strings.SplitSeq(line, " ") {
		l = append(l, number(word))
	}
	return l
}

// number returns the number that a word is; some number if it is none.
func number(word string) int {
	n, _ := strconv.Atoi(word)
	return n
}
