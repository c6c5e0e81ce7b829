package mark

import (
	"math"
	"slices"
	"strings"
	"testing"

	"tidewright/api"
)

func num(n int) api.Value { return api.Value{Kind: api.VInt, N: n} }

func text(s string) api.Value { return api.Value{Kind: api.VText, S: s} }

// at returns an event of each time; its row tells which one it is.
func at(times ...int) []api.Event {
	l := make([]api.Event, len(times))
	for i, time := range times {
		l[i] = api.Event{Time: time, Row: api.Row{num(i)}}
	}
	return l
}

func sameEvents(a, b []api.Event) bool {
	return slices.EqualFunc(a, b, func(x, y api.Event) bool { return x.Time == y.Time && slices.Equal(x.Row, y.Row) })
}

// picked returns some of l.
func picked(l []api.Event, numbers ...int) []api.Event {
	var p []api.Event
	for _, n := range numbers {
		p = append(p, l[n])
	}
	return p
}

// Promises 6.3 and P6.4.
func TestSorted(t *testing.T) {
	for _, x := range []struct {
		bound    int
		times    []int
		on, late []int
	}{
		{5, nil, nil, nil},
		{5, []int{10, 7, 12, 7, 8, 5, 13}, []int{0, 1, 2, 4, 6}, []int{3, 5}},
		{2, []int{5, 9, 7, 8}, []int{0, 1, 3}, []int{2}},
		{0, []int{5, 5, 6, 5, 7}, []int{0, 2, 4}, []int{1, 3}},
		{0, []int{3, 2, 1}, []int{0}, []int{1, 2}},
		// A bound above the greatest time less the least: nothing is late; one less, and the least may be.
		{3, []int{3, 2, 1}, []int{0, 1, 2}, nil},
		{2, []int{3, 2, 1}, []int{0, 1}, []int{2}},
		{0, []int{-maxTime, -maxTime, maxTime, maxTime}, []int{0, 2}, []int{1, 3}},
		{maxSpan, []int{maxTime, maxTime - maxSpan + 1, maxTime - maxSpan}, []int{0, 1}, []int{2}},
	} {
		l := at(x.times...)
		on, late, e := Sorted(x.bound, l)
		if !sameEvents(on, picked(l, x.on...)) || !sameEvents(late, picked(l, x.late...)) || e != api.OK {
			t.Errorf("Sorted(%d, %v) = %v, %v, %d", x.bound, x.times, on, late, e)
		}
	}
	most := slices.Repeat(at(5), api.MaxRows)
	if on, late, e := Sorted(0, most); len(on) != 1 || len(late) != api.MaxRows-1 || e != api.OK {
		t.Errorf("Sorted of MaxRows events: %d, %d, %d", len(on), len(late), e)
	}
}

// validRows and wrongRows have the edges of layer 2.
func validRows() []api.Row {
	return []api.Row{
		nil, {}, {{}}, {num(0)}, {num(api.MaxInt)}, {num(-api.MaxInt)}, {text("")}, {text(strings.Repeat("é", api.MaxString/2))},
		slices.Repeat(api.Row{num(1)}, api.MaxColumns), {{}, num(1), text("a")},
	}
}

func wrongRows() []api.Row {
	return []api.Row{
		slices.Repeat(api.Row{{}}, api.MaxColumns+1), {num(api.MaxInt + 1)}, {num(-api.MaxInt - 1)}, {num(math.MinInt)}, {num(math.MaxInt)},
		{text(strings.Repeat("a", api.MaxString+1))}, {{Kind: api.VNull, N: 1}}, {{Kind: api.VNull, S: "a"}}, {{Kind: api.VInt, S: "a"}}, {{Kind: api.VText, N: 1}},
		{{Kind: 3}}, {{Kind: -1}}, {num(1), {Kind: 3}}, {{Kind: 3}, num(1)},
	}
}

// Promise 6.3: errors in their order.
func TestSortedErrors(t *testing.T) {
	for _, r := range validRows() {
		l := []api.Event{{Time: 5, Row: r}}
		if on, late, e := Sorted(5, l); !sameEvents(on, l) || len(late) != 0 || e != api.OK {
			t.Errorf("Sorted of %v = %v, %v, %d", r, on, late, e)
		}
	}
	bounds := append(wrongSpans(), 0, maxSpan)
	wrong := [][]api.Event{slices.Repeat(at(5), api.MaxRows+1)}
	for _, r := range wrongRows() {
		wrong = append(wrong, []api.Event{{Time: 5, Row: r}}, append(at(7, 5), api.Event{Row: r}))
	}
	for _, time := range wrongTimes() {
		wrong = append(wrong, at(time), at(5, time), at(time, 5))
	}
	for _, l := range wrong {
		for _, bound := range bounds {
			if on, late, e := Sorted(bound, l); len(on) != 0 || len(late) != 0 || e != api.ErrInvalid {
				t.Errorf("Sorted(%d, %v) = %v, %v, %d", bound, l, on, late, e)
			}
		}
	}
	for _, bound := range wrongSpans() {
		if on, late, e := Sorted(bound, at(5)); len(on) != 0 || len(late) != 0 || e != api.ErrRange {
			t.Errorf("Sorted(%d) = %v, %v, %d", bound, on, late, e)
		}
	}
}

// Promise P6.1: arguments stay, also behind their ends, and results share memory with nothing.
func TestNew(t *testing.T) {
	rows := slices.Repeat(api.Row{num(1), num(2), num(3)}, 3)
	l := []api.Event{{Time: 5, Row: rows[0:2]}, {Time: 3, Row: rows[3:5]}, {Time: 7, Row: rows[6:8]}, {Time: 9}, {Time: 9}}[:3]
	beforeRows, beforeL := slices.Clone(rows), slices.Clone(l[:5])
	on, late, _ := Sorted(1, l)
	if len(on) != 2 || len(late) != 1 {
		t.Fatalf("Sorted = %v, %v", on, late)
	}
	for i, r := range []api.Row{on[0].Row, late[0].Row, on[1].Row} {
		r = r[:cap(r)]
		for j := range r {
			r[j] = num(100*i + j)
		}
	}
	for i, r := range []api.Row{on[0].Row, late[0].Row, on[1].Row} {
		if !slices.Equal(r, api.Row{num(100 * i), num(100*i + 1)}) {
			t.Error("rows of results share their memory")
		}
	}
	on[0].Time, late[0].Time = 100, 200
	if !slices.Equal(rows, beforeRows) || !sameEvents(l[:5], beforeL) {
		t.Error("Sorted: arguments are changed")
	}
	times := []int{5, 3, 7, 99, 99}[:3]
	marks, _ := Marks(1, times)
	for i := range marks[:cap(marks)] {
		marks[:cap(marks)][i] = 50
	}
	if !slices.Equal(times[:5], []int{5, 3, 7, 99, 99}) {
		t.Errorf("Marks: arguments are changed to %v", times[:5])
	}
	m := newMeet(t, 3)
	m.Set(0, 5)
	m.Set(1, 4)
	m.Close(2)
	for range 2 {
		inputs := m.Inputs()
		held, _ := m.Held(0)
		if !slices.Equal(inputs, []int{5, 4, maxTime + 1}) || !slices.Equal(held, []int{0, 2}) {
			t.Errorf("Inputs %v, Held %v", inputs, held)
		}
		clear(inputs)
		clear(held)
	}
}

// Promise P6.1: who stops ranging over what is read stops the reading.
func TestReading(t *testing.T) {
	g := newGauge(t, 2)
	for event := range g.reading(at(5, 6, 7)) {
		if event.Time == 6 {
			break
		}
	}
	checkGauge(t, "behind two of three events", g, 2, 5, false)
}
