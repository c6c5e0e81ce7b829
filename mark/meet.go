package mark

import "tidewright/api"

// Meet makes one mark of those of several inputs: the least one of the inputs that are busy.
type Meet struct {
	inputs  []inlet
	reached level
}

// inlet is an input: it has a mark, and is busy unless it is idle.
type inlet struct {
	level
	idle, closed bool
}

// NewMeet returns a meet of so many inputs, all of them busy and without a mark.
func NewMeet(inputs int) (*Meet, api.Errno) {
	if !within(inputs, 1, api.MaxInputs) {
		return nil, api.ErrRange
	}
	return &Meet{inputs: make([]inlet, inputs)}, api.OK
}

// Set tells the mark of an input, which is busy then. A closed one has the greatest mark, which may be told again.
func (m *Meet) Set(input, mark int) api.Errno {
	switch {
	case m == nil:
		return api.ErrInvalid
	case !m.has(input) || !within(mark, none, greatest):
		return api.ErrRange
	case mark < m.inputs[input].mark():
		return api.ErrState
	}
	m.inputs[input].raise(mark)
	m.inputs[input].wake()
	m.advance()
	return api.OK
}

// Idle makes an input idle: the mark does not wait for it.
func (m *Meet) Idle(input int) api.Errno {
	return m.change(input, (*inlet).rest)
}

// Busy makes an input busy, as one that has an event is.
func (m *Meet) Busy(input int) api.Errno {
	return m.change(input, (*inlet).wake)
}

// Close tells that nothing more is to come of an input.
func (m *Meet) Close(input int) api.Errno {
	return m.change(input, (*inlet).close)
}

// Mark returns the mark of all.
func (m *Meet) Mark() int {
	if m == nil {
		return none
	}
	return m.reached.mark()
}

// Inputs returns the marks of the inputs.
func (m *Meet) Inputs() []int {
	if m == nil {
		return nil
	}
	marks := make([]int, len(m.inputs))
	for i, in := range m.inputs {
		marks[i] = in.mark()
	}
	return marks
}

// IsIdle reports whether an input is idle.
func (m *Meet) IsIdle(input int) bool {
	return m != nil && m.has(input) && m.inputs[input].idle
}

// Held returns the inputs, ascending, whose marks are more than a drift above the least one of the busy inputs.
func (m *Meet) Held(drift int) ([]int, api.Errno) {
	if m == nil {
		return nil, api.ErrInvalid
	}
	if !isSpan(drift) {
		return nil, api.ErrRange
	}
	// Where all are idle there is no least mark, and none of the inputs is asked for its own.
	slowest, _ := m.slowest()
	var held []int
	for i, in := range m.inputs {
		if !in.idle && in.mark()-slowest > drift {
			held = append(held, i)
		}
	}
	return held, api.OK
}

// change changes an input that is not closed.
func (m *Meet) change(input int, how func(*inlet)) api.Errno {
	switch {
	case m == nil:
		return api.ErrInvalid
	case !m.has(input):
		return api.ErrRange
	case m.inputs[input].closed:
		return api.ErrState
	}
	how(&m.inputs[input])
	m.advance()
	return api.OK
}

// advance takes the mark to where the inputs are. If all are idle it stays.
func (m *Meet) advance() {
	if slowest, ok := m.slowest(); ok {
		m.reached.raise(slowest)
	}
}

// slowest returns the least mark of the busy inputs; false if all are idle.
func (m *Meet) slowest() (int, bool) {
	return least(m.inputs, func(in inlet) (int, bool) { return in.mark(), !in.idle })
}

func (m *Meet) has(input int) bool {
	return within(input, 0, len(m.inputs)-1)
}

func (in *inlet) rest() { in.idle = true }

func (in *inlet) wake() { in.idle = false }

// close makes an input a closed one, which counts as busy.
func (in *inlet) close() {
	in.raise(greatest)
	in.wake()
	in.closed = true
}
