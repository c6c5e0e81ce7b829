package motif

import (
	"iter"
	"slices"
	"strings"

	"tidewright/api"
	"tidewright/calc"
)

// finder finds the matches of a pattern among events, which stand in their order. Its matches are the places of their events there.
type finder struct {
	events []api.Event
	within int
	steps  []step
}

// step is a stage of a pattern, with its conditions in a form in which they can be asked.
type step struct {
	follow       int
	cond, unless condition
}

// condition reports whether it is true of the event at a place, where the stages before have those at the places that are bound.
type condition func(at int, bound []int) bool

// newFinder returns what finds the matches of a valid pattern among valid events.
func newFinder(s api.Schema, p api.Pattern, events []api.Event) *finder {
	f := &finder{events: events, within: p.Within}
	for i, x := range p.Stages {
		before := p.Stages[:i]
		f.steps = append(f.steps, step{x.Follow, f.condition(s, x.Cond, before), f.condition(s, x.Unless, before)})
	}
	f.steps[0].follow = api.FAny // there is none before it, so it may be anywhere
	return f
}

// condition makes a condition of an expression over the row of an event and those of the stages before it.
func (f *finder) condition(s api.Schema, text string, before []api.Stage) condition {
	if text == "" {
		return func(int, []int) bool { return false }
	}
	schemas, names, named := schemasOf(s, before), namesOf(before), namedIn(text)
	ask := func(at int, bound []int) bool {
		rows := make([]api.Row, len(bound))
		for i, place := range bound {
			rows[i] = f.events[place].Row
		}
		v, _ := calc.EvalBound(s, text, f.events[at].Row, schemas, names, rows)
		return v.N != 0 // of null it is 0
	}
	// It is asked of the same events again as those change that it does not name. So its answers are kept, by the places of those that it is about.
	answers := map[[maxStages]int8]bool{}
	return func(at int, bound []int) bool {
		var about [maxStages]int8
		about[len(bound)] = int8(at)
		for i, place := range bound {
			if slices.Contains(named, names[i]) {
				about[i] = int8(place)
			}
		}
		answer, known := answers[about]
		if !known {
			answer = ask(at, bound)
			answers[about] = answer
		}
		return answer
	}
}

// namedIn returns the names of stages whose rows an expression names.
func namedIn(text string) []string {
	var stages []string
	names, _ := calc.Names(text)
	for _, name := range names {
		if prefix, _, ok := strings.Cut(name, "."); ok {
			stages = append(stages, prefix)
		}
	}
	return stages
}

// next returns an iterator of the places that the event of the next stage may have, ascending, where those before have the ones that are bound.
func (f *finder) next(bound []int) iter.Seq[int] {
	step := f.steps[len(bound)]
	return func(yield func(int) bool) {
		for at := f.behind(bound); at < len(f.events) && f.isNear(at, bound); at++ {
			fits := step.cond(at, bound)
			if fits && !yield(at) {
				return
			}
			// Whether an event further behind may follow.
			if step.follow == api.FNext || step.follow == api.FThen && fits || step.unless(at, bound) {
				return
			}
		}
	}
}

// behind returns the place behind those that are bound.
func (f *finder) behind(bound []int) int {
	if len(bound) == 0 {
		return 0
	}
	return bound[len(bound)-1] + 1
}

// isNear reports whether the event at a place may be in one match with the first one that is bound, by its time.
func (f *finder) isNear(at int, bound []int) bool {
	return len(bound) == 0 || f.events[at].Time-f.events[bound[0]].Time <= f.within
}

// isMatch reports whether the events at as many places as there are stages are a match.
func (f *finder) isMatch(places []int) bool {
	for i, place := range places {
		if !has(f.next(places[:i]), place) {
			return false
		}
	}
	return true
}

func has(l iter.Seq[int], n int) bool {
	for x := range l {
		if x == n {
			return true
		}
	}
	return false
}

// matches returns an iterator of all matches, in order.
func (f *finder) matches() iter.Seq[[]int] {
	return func(yield func([]int) bool) {
		// look goes through the matches that begin with what is bound, and reports whether more are asked for.
		var look func(bound []int) bool
		look = func(bound []int) bool {
			if len(bound) == len(f.steps) {
				return yield(slices.Clone(bound))
			}
			for at := range f.next(bound) {
				if !look(append(bound, at)) {
					return false
				}
			}
			return true
		}
		look(nil)
	}
}

// all returns all matches, in order, if they are not too many.
func (f *finder) all() ([][]int, api.Errno) {
	var l [][]int
	for match := range f.matches() {
		if len(l) == api.MaxRows {
			return nil, api.ErrLimit
		}
		l = append(l, match)
	}
	return l, api.OK
}

// kept returns the matches, of those told in order, that are not left out: none that begins before the place free. It returns the place before which none may begin behind them, too.
func kept(skip int, matches [][]int, free int) ([][]int, int) {
	var l [][]int
	for _, match := range matches {
		if match[0] < free {
			continue
		}
		l = append(l, match)
		switch skip {
		case 1:
			free = match[len(match)-1] + 1
		case 2:
			free = match[0] + 1
		}
	}
	return l, free
}
