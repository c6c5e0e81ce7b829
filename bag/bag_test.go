package bag

import (
	"math"
	"math/rand"
	"slices"
	"strconv"
	"strings"
	"testing"

	"tidewright/api"
	"tidewright/row"
)

func num(n int) api.Value { return api.Value{Kind: api.VInt, N: n} }

func text(s string) api.Value { return api.Value{Kind: api.VText, S: s} }

// asRow returns the row of a text.
func asRow(s string) api.Row {
	r, e := row.Parse(s)
	if e != api.OK {
		panic("no row: " + s)
	}
	return r
}

// of returns the bag of lines between semicolons: `2 1,"a"; -1 5`. It takes them as they are, valid or not.
func of(s string) api.Bag {
	var b api.Bag
	for line := range strings.SplitSeq(s, ";") {
		if s == "" {
			break
		}
		number, values, _ := strings.Cut(strings.TrimLeft(line, " "), " ")
		n, err := strconv.Atoi(number)
		if err != nil {
			panic("no item: " + line)
		}
		b = append(b, api.Item{Row: asRow(values), N: n})
	}
	return b
}

// changes returns the changes of lines as in of, at the times 0, 1, ..
func changes(s string) []api.Change {
	var l []api.Change
	for i, item := range of(s) {
		l = append(l, api.Change{Time: i, Row: item.Row, N: item.N})
	}
	return l
}

// many returns a bag of the rows of so many numbers from first on, each n times.
func many(first, count, n int) api.Bag {
	b := make(api.Bag, count)
	for i := range b {
		b[i] = api.Item{Row: api.Row{num(first + i)}, N: n}
	}
	return b
}

// manyChanges returns changes of the rows of so many numbers from first on.
func manyChanges(first, count, n int) []api.Change {
	l := make([]api.Change, count)
	for i := range l {
		l[i] = api.Change{Row: api.Row{num(first + i)}, N: n}
	}
	return l
}

func validBags() []api.Bag {
	long := strings.Repeat("\xff", api.MaxString)
	return []api.Bag{
		nil, {}, of("1 "), of("-1 "), of("1 ; 2 ~; 3 ~,~; 1 -5; 1 1; 7 1,~; 1 1,2; 1 2; 1 \"\"; 1 \"1\"; 1 \"a\""),
		of("1000000 1"), of("-1000000 1"), of("1000000 1; -1000000 2"), of("2 1; -1 2; 3 5"), of("1 1; 1 2; 4 7"),
		of("1 -1000000000000000; 1 1000000000000000"), of("3 ~,~,~,~,~,~,~,~"), {{Row: api.Row{text(long)}, N: 5}},
		many(0, api.MaxRows, 1), many(-200, api.MaxRows, -api.MaxCount),
	}
}

// invalidRows are rows each of which breaks one rule.
func invalidRows() []api.Row {
	return []api.Row{
		make(api.Row, api.MaxColumns+1), {num(api.MaxInt + 1)}, {num(-api.MaxInt - 1)}, {num(math.MinInt)},
		{text(strings.Repeat("x", api.MaxString+1))}, {{Kind: 3}}, {{Kind: -1}}, {{N: 1}}, {{S: "x"}}, {{Kind: api.VInt, S: "x"}}, {{Kind: api.VText, N: 1}}, {num(1), {Kind: 9}},
	}
}

// invalidBags are bags each of which breaks one rule.
func invalidBags() []api.Bag {
	bags := []api.Bag{
		of("0 1"), of("1 1; 0 2"), of("0 1; 1 2"), of("1000001 1"), of("-1000001 1"), {{Row: asRow("1"), N: math.MaxInt}}, {{Row: asRow("1"), N: math.MinInt}},
		of("1 2; 1 1"), of("1 1; 1 1"), of("1 1; 2 1"), of("1 ; 1 "), of("1 ~; 1 "), of("1 1,~; 1 1"), of("1 \"a\"; 1 1"), of("1 1; 1 ~"), of("1 1; 1 3; 1 2"), of("1 10; 1 9"), of("1 \"b\"; 1 \"ab\""),
		many(0, api.MaxRows+1, 1), many(0, 1000, 1), slices.Repeat(of("1 1"), 100000),
	}
	for _, r := range invalidRows() {
		bags = append(bags, api.Bag{{Row: r, N: 1}}, api.Bag{{Row: nil, N: 1}, {Row: r, N: 1}})
	}
	return bags
}

// invalidLists are lists of changes each of which breaks one rule.
func invalidLists() [][]api.Change {
	lists := [][]api.Change{manyChanges(0, api.MaxRows+1, 1), slices.Repeat(changes("1 1"), api.MaxRows+1), slices.Repeat(changes("1 1; -1 1"), 5000)}
	for _, c := range invalidChanges() {
		lists = append(lists, []api.Change{c}, append(changes("1 1; 2 3"), c))
	}
	return lists
}

func invalidChanges() []api.Change {
	r := asRow("1")
	l := []api.Change{
		{Row: r}, {Row: r, N: api.MaxCount + 1}, {Row: r, N: -api.MaxCount - 1}, {Row: r, N: math.MinInt}, {Row: r, N: math.MaxInt},
		{Time: api.MaxTime + 1, Row: r, N: 1}, {Time: -api.MaxTime - 1, Row: r, N: 1}, {Time: math.MinInt, Row: r, N: 1}, {Time: math.MaxInt, Row: r, N: 1}, {},
	}
	for _, r := range invalidRows() {
		l = append(l, api.Change{Row: r, N: 1})
	}
	return l
}

// draws gives bags and changes over few rows, so that many of them meet.
type draws struct{ *rand.Rand }

func newDraws(seed int64) draws { return draws{rand.New(rand.NewSource(seed))} }

func (d draws) row() api.Row {
	values := []api.Value{{}, num(-1), num(0), num(10), text(""), text("a"), text("\n\"")}
	r := api.Row{values[d.Intn(len(values))], values[d.Intn(len(values))]}
	return append(r, values[:d.Intn(3)]...)
}

// count gives mostly small numbers, and at times those at the limit.
func (d draws) count() int {
	counts := []int{1, 1, 1, 2, 3, 4, api.MaxCount, api.MaxCount - 1}
	return counts[d.Intn(len(counts)-2+d.Intn(3))] * (1 - 2*d.Intn(2))
}

func (d draws) bag() api.Bag {
	m := model{}
	for range d.Intn(20) {
		m[row.Text(d.row())] = d.count()
	}
	return m.bag()
}

// whole gives a bag that is whole, of few rows each few times.
func (d draws) whole() api.Bag {
	m := model{}
	for range d.Intn(20) {
		m[row.Text(d.row())] = 1 + d.Intn(5)
	}
	return m.bag()
}

func (d draws) changes() []api.Change {
	l := make([]api.Change, d.Intn(20))
	for i := range l {
		l[i] = api.Change{Time: d.Intn(9) - 4, Row: d.row(), N: d.count()}
	}
	return l
}

// model is a bag as plainly as may be: how often each row comes, by its text.
type model map[string]int

func modelOf(b api.Bag) model {
	m := model{}
	for _, item := range b {
		m[row.Text(item.Row)] += item.N
	}
	return m
}

// bag returns the items in order, of which those that come 0 times are none.
func (m model) bag() api.Bag {
	var rows []api.Row
	for s, n := range m {
		if n != 0 {
			rows = append(rows, asRow(s))
		}
	}
	var b api.Bag
	for _, r := range row.Sort(rows) {
		b = append(b, api.Item{Row: r, N: m[row.Text(r)]})
	}
	return b
}

// both makes of two bags a model by what becomes of each row's two numbers.
func both(a, b api.Bag, become func(m, n int) int) model {
	of, from := modelOf(a), modelOf(b)
	made := model{}
	for s := range of {
		made[s] = become(of[s], from[s])
	}
	for s := range from {
		made[s] = become(of[s], from[s])
	}
	return made
}

// checkModel checks that a bag is what a model says, or ErrLimit if that is no bag.
func checkModel(t *testing.T, what string, got api.Bag, e api.Errno, m model) {
	t.Helper()
	want, wantE := m.bag(), api.OK
	if !Valid(want) {
		want, wantE = nil, api.ErrLimit
	}
	if !Same(got, want) || e != wantE {
		t.Fatalf("%s = %q, %d, not %q, %d", what, Format(got), e, Format(want), wantE)
	}
}

// checkBag checks that a bag is that of lines as in of, or that there is none and the error is that told.
func checkBag(t *testing.T, what string, got api.Bag, e api.Errno, want string, wantE api.Errno) {
	t.Helper()
	if !Same(got, of(want)) || e != wantE {
		t.Errorf("%s = %v, %d, not %q, %d", what, got, e, want, wantE)
	}
}

// Promise 3.1.
func TestValid(t *testing.T) {
	for _, b := range validBags() {
		if !Valid(b) {
			t.Errorf("%v is not valid", b)
		}
	}
	for i, b := range invalidBags() {
		if Valid(b) {
			t.Errorf("bag %d is valid", i)
		}
	}
}

// Promise 3.1.
func TestWhole(t *testing.T) {
	for _, b := range validBags() {
		want := !strings.Contains("\n"+Format(b), "\n-")
		if Whole(b) != want {
			t.Errorf("Whole(%v) = %v", b, !want)
		}
	}
	if !Whole(nil) || !Whole(of("1 1; 1000000 2")) || Whole(of("1 1; -1 2")) || Whole(of("-1 1; 1 2")) {
		t.Error("Whole")
	}
	for i, b := range invalidBags() {
		if Whole(b) {
			t.Errorf("bag %d, which is not valid, is whole", i)
		}
	}
}

// Promise 3.1.
func TestValidChange(t *testing.T) {
	for _, c := range []api.Change{
		{N: 1}, {N: -1}, {Row: asRow("1,\"a\""), N: 5}, {Time: api.MaxTime, N: api.MaxCount}, {Time: -api.MaxTime, N: -api.MaxCount}, {Row: make(api.Row, api.MaxColumns), N: 1},
	} {
		if !ValidChange(c) {
			t.Errorf("%v is not valid", c)
		}
	}
	for _, c := range invalidChanges() {
		if ValidChange(c) {
			t.Errorf("%v is valid", c)
		}
	}
}

// Promise 3.1.
func TestOf(t *testing.T) {
	rows := func(s string) []api.Row {
		var l []api.Row
		for _, x := range strings.Split(s, ";") {
			l = append(l, asRow(x))
		}
		return l
	}
	for _, x := range []struct {
		l    []api.Row
		want string
	}{
		{nil, ""}, {[]api.Row{}, ""}, {rows(""), "1 "}, {[]api.Row{nil, {}, nil}, "3 "}, {rows("5"), "1 5"},
		{rows("2;1;2;~;\"a\";1,1;2"), "1 ~; 1 1; 1 1,1; 3 2; 1 \"a\""}, {rows("10;9;\"\";"), "1 ; 1 9; 1 10; 1 \"\""},
		{slices.Repeat(rows("7"), api.MaxRows), "400 7"},
	} {
		b, e := Of(x.l)
		checkBag(t, "Of", b, e, x.want, api.OK)
	}
	var l []api.Row
	for _, item := range many(0, api.MaxRows, 1) {
		l = slices.Insert(l, 0, item.Row)
	}
	if b, e := Of(l); !Same(b, many(0, api.MaxRows, 1)) || e != api.OK {
		t.Errorf("Of %d rows = %v, %d", len(l), b, e)
	}
	bad := [][]api.Row{append(l, asRow("0")), slices.Repeat(rows("7"), api.MaxRows+1)}
	for _, r := range invalidRows() {
		bad = append(bad, []api.Row{r}, []api.Row{asRow("1"), r}, []api.Row{r, asRow("1")})
	}
	for i, l := range bad {
		if b, e := Of(l); len(b) != 0 || e != api.ErrInvalid {
			t.Errorf("Of list %d, which is not valid = %v, %d", i, b, e)
		}
	}
}

// Promise 3.1.
func TestCount(t *testing.T) {
	for _, b := range validBags() {
		m := modelOf(b)
		for _, s := range []string{"", "~", "~,~", "-5", "1", "1,~", "1,2", "2", "5", "7", "\"\"", "\"1\"", "\"a\"", "0", "399", "400", "-200", "-201", "3"} {
			if got := Count(b, asRow(s)); got != m[s] {
				t.Errorf("Count(%v, %s) = %d, not %d", b, s, got, m[s])
			}
		}
		for _, item := range b {
			if got := Count(b, item.Row); got != item.N {
				t.Errorf("Count(%v, %v) = %d, not %d", b, item.Row, got, item.N)
			}
		}
		for _, r := range invalidRows() {
			if got := Count(b, r); got != 0 {
				t.Errorf("Count of %v, which is no row, = %d", r, got)
			}
		}
	}
	// The order takes another kind as null, which is there.
	if got := Count(of("5 ~"), api.Row{{Kind: 3}}); got != 0 {
		t.Errorf("Count of another kind = %d", got)
	}
	for i, b := range invalidBags() {
		for _, item := range b[:min(len(b), 3)] {
			if got := Count(b, item.Row); got != 0 {
				t.Errorf("Count in bag %d, which is not valid, = %d", i, got)
			}
		}
	}
}

// Promise 3.1.
func TestTotal(t *testing.T) {
	for _, x := range []struct {
		b    api.Bag
		want int
	}{
		{nil, 0}, {of("3 "), 3}, {of("2 1; -1 2; 3 5"), 4}, {of("-1 1; 1 2"), 0}, {of("-2 1; 1 2"), -1},
		{many(0, api.MaxRows, api.MaxCount), api.MaxRows * api.MaxCount}, {many(0, api.MaxRows, -api.MaxCount), -api.MaxRows * api.MaxCount},
	} {
		if got := Total(x.b); got != x.want {
			t.Errorf("Total(%v) = %d, not %d", x.b, got, x.want)
		}
	}
	for i, b := range invalidBags() {
		if got := Total(b); got != 0 {
			t.Errorf("Total of bag %d, which is not valid, = %d", i, got)
		}
	}
}

// Promise 3.1: as they are, whether valid or not.
func TestSame(t *testing.T) {
	bags := append(validBags()[1:], invalidBags()[:15]...) // the first and the second are both empty
	for i, a := range bags {
		for j, b := range bags {
			if got := Same(a, b); got != (i == j) {
				t.Errorf("Same(%v, %v) = %v", a, b, got)
			}
		}
	}
	if !Same(nil, api.Bag{}) || !Same(api.Bag{{N: 1}}, api.Bag{{Row: api.Row{}, N: 1}}) {
		t.Error("nil and empty are not the same")
	}
	for _, x := range [][2]api.Bag{
		{of("1 1"), of("2 1")}, {of("1 1"), of("1 2")}, {of("1 1"), of("1 1; 1 2")}, {of("1 1; 1 2"), of("1 1")}, {of("1 ~"), of("1 ~,~")}, {of("1 1"), of("1 \"1\"")}, {of("1 1; 1 2"), of("1 2; 1 1")},
		{of("1 ~"), {{Row: api.Row{{Kind: 3}}, N: 1}}}, {of("2 1"), of("1 1; 1 1")}, {of("1 1"), of("1 1; 0 2")}, {nil, of("0 1")},
	} {
		if Same(x[0], x[1]) || Same(x[1], x[0]) {
			t.Errorf("%v and %v are the same", x[0], x[1])
		}
	}
}
