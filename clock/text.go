package clock

import (
	"strconv"
	"strings"

	"tidewright/api"
)

// Format writes a spec; the empty string if it is not valid.
func Format(s api.Spec) string {
	if !ValidSpec(s) {
		return ""
	}
	text, numbers := form(&s)
	for _, n := range numbers {
		text += " " + strconv.Itoa(*n)
	}
	return text
}

// Parse reads a text that Format writes.
func Parse(text string) (api.Spec, api.Errno) {
	if len(text) > api.MaxText {
		return api.Spec{}, api.ErrLong
	}
	s := read(strings.Split(text, " "))
	// A spec has one text only: what strconv reads beside it (a plus, leading zeros) does not come out again.
	if !ValidSpec(s) || Format(s) != text {
		return api.Spec{}, api.ErrSyntax
	}
	return s, api.OK
}

// form returns the word for a kind of windows, and the fields whose numbers follow it.
func form(s *api.Spec) (string, []*int) {
	switch s.Kind {
	case api.WTumbling:
		return "tumbling", []*int{&s.Size, &s.Shift}
	case api.WSliding:
		return "sliding", []*int{&s.Size, &s.Step, &s.Shift}
	case api.WSession:
		return "session", []*int{&s.Gap}
	case api.WGlobal:
		return "global", nil
	}
	return "", nil
}

// read returns the spec that words tell, valid or not; the empty one, which is not valid, if they tell none.
func read(words []string) api.Spec {
	for kind := api.WTumbling; kind <= api.WGlobal; kind++ {
		s := api.Spec{Kind: kind}
		name, numbers := form(&s)
		if words[0] == name && len(words) == len(numbers)+1 && fill(numbers, words[1:]) {
			return s
		}
	}
	return api.Spec{}
}

// fill sets numbers to what words say, and reports whether each of them is a number.
func fill(numbers []*int, words []string) bool {
	for i, word := range words {
		n, err := strconv.Atoi(word)
		if err != nil {
			return false
		}
		*numbers[i] = n
	}
	return true
}
