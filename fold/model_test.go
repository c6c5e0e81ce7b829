package fold

import (
	"math/big"
	"math/rand"
	"slices"
	"testing"

	"tidewright/api"
	"tidewright/bag"
	"tidewright/row"
)

// model tells, as plainly as may be, what aggregates come to of a whole bag.
func model(l []api.Agg, b api.Bag) api.Row {
	var r api.Row
	for _, a := range l {
		r = append(r, modelOf(a, b))
	}
	return r
}

func modelOf(a api.Agg, b api.Bag) api.Value {
	rows, values, sum, numbers := 0, 0, new(big.Int), 0
	var different []api.Row // of one value each, ascending
	for _, item := range b {
		rows += item.N
		if a.Kind == api.ACount || item.Row[a.Column].Kind == api.VNull {
			continue
		}
		v := item.Row[a.Column]
		values += item.N
		different = append(different, api.Row{v})
		if v.Kind == api.VInt {
			numbers += item.N
			sum.Add(sum, new(big.Int).Mul(big.NewInt(int64(v.N)), big.NewInt(int64(item.N))))
		}
	}
	different = slices.CompactFunc(row.Sort(different), func(x, y api.Row) bool { return slices.Equal(x, y) })
	switch a.Kind {
	case api.ACount:
		return num(rows)
	case api.AValues:
		return num(values)
	case api.ADistinct:
		return num(len(different))
	case api.ALeast, api.AGreatest:
		if len(different) == 0 {
			return api.Value{}
		}
		if a.Kind == api.ALeast {
			return different[0][0]
		}
		return different[len(different)-1][0]
	}
	if numbers == 0 || sum.CmpAbs(big.NewInt(api.MaxInt)) > 0 {
		return api.Value{}
	}
	if a.Kind == api.AMean {
		sum.Div(sum, big.NewInt(int64(numbers))) // of big, Div by what is above 0 rounds down
	}
	return num(int(sum.Int64()))
}

// draws gives lists and bags of few different rows, so that many meet.
type draws struct{ *rand.Rand }

func newDraws(seed int64) draws { return draws{rand.New(rand.NewSource(seed))} }

func (d draws) value() api.Value {
	values := []api.Value{{}, num(0), num(1), num(-1), num(7), num(-10), num(999_999_999), num(-1_000_000_001), num(api.MaxInt), num(-api.MaxInt), num(api.MaxInt - 1), text(""), text("a"), text("10"), text("\xff")}
	return values[d.Intn(len(values))]
}

func (d draws) row(n int) api.Row {
	r := make(api.Row, n)
	for i := range r {
		r[i] = d.value()
	}
	return r
}

func (d draws) list(n int) []api.Agg {
	l := make([]api.Agg, 1+d.Intn(api.MaxColumns))
	for i := range l {
		l[i].Kind = kinds()[d.Intn(len(kinds()))]
		if n == 0 {
			l[i].Kind = api.ACount
		}
		if l[i].Kind != api.ACount {
			l[i].Column = d.Intn(n)
		}
	}
	return l
}

// bag gives a bag, mostly of small numbers; a whole one if that is asked.
func (d draws) bag(n int, whole bool) api.Bag {
	var b api.Bag
	for range d.Intn(12) {
		count := 1 + d.Intn(4)
		if d.Intn(10) == 0 {
			count = api.MaxCount / 8
		}
		if !whole && d.Intn(3) == 0 {
			count = -count
		}
		if sum, e := bag.Sum(b, api.Bag{{Row: d.row(n), N: count}}); e == api.OK {
			b = sum
		}
	}
	return b
}

// split gives bags that come to b together, each row's number dealt to them anyhow.
func (d draws) split(b api.Bag) []api.Bag {
	parts := make([]api.Bag, 1+d.Intn(api.MaxInputs))
	for i := range parts[1:] {
		var taken api.Bag
		for _, item := range b {
			if n := d.Intn(2*abs(item.N)+3) - abs(item.N) - 1; n != 0 && d.Intn(2) == 0 {
				taken = append(taken, api.Item{Row: item.Row, N: n})
			}
		}
		if rest, e := bag.Minus(b, taken); e == api.OK {
			parts[i], b = taken, rest
		}
	}
	parts[len(parts)-1] = b
	d.Shuffle(len(parts), func(i, j int) { parts[i], parts[j] = parts[j], parts[i] })
	return parts
}

func abs(n int) int { return max(n, -n) }

// steps gives Adds that come to b together, in any order, with rows between that come and go.
func (d draws) steps(b api.Bag, n int) []api.Item {
	var l []api.Item
	for _, item := range b {
		first := d.Intn(2*abs(item.N)+1) - abs(item.N)
		l = append(l, api.Item{Row: item.Row, N: first}, api.Item{Row: item.Row, N: item.N - first})
	}
	for range d.Intn(8) {
		r, count := d.row(n), 1+d.Intn(9)
		l = append(l, api.Item{Row: r, N: count}, api.Item{Row: r, N: -count})
	}
	d.Shuffle(len(l), func(i, j int) { l[i], l[j] = l[j], l[i] })
	return slices.DeleteFunc(l, func(item api.Item) bool { return item.N == 0 })
}

// checkTold checks that what is told of a bag is what the model tells.
func checkTold(t *testing.T, what string, r api.Row, e api.Errno, l []api.Agg, b api.Bag) {
	t.Helper()
	if !bag.Whole(b) {
		checkRow(t, what, r, e, "", api.ErrState)
		return
	}
	if want := model(l, b); !slices.Equal(r, want) || e != api.OK {
		t.Fatalf("%s of %v of %q = %q, %d, not %q", what, l, bag.Format(b), row.Text(r), e, row.Text(want))
	}
}

// Promises 5.2 and 5.3, against the model.
func TestAgainstModel(t *testing.T) {
	d := newDraws(1)
	for range 4000 {
		n := d.Intn(4)
		l, b := d.list(n), d.bag(n, d.Intn(4) > 0)
		r, e := Of(l, n, b)
		checkTold(t, "Of", r, e, l, b)
		r, e = begin(t, l, n, b).Result()
		checkTold(t, "Result", r, e, l, b)
	}
}

// Promise P5.2: in whatever order a bag is added, and whatever comes and goes between.
func TestBagsAlone(t *testing.T) {
	d := newDraws(2)
	for range 2000 {
		n := d.Intn(4)
		l, b := d.list(n), d.bag(n, d.Intn(4) > 0)
		for range 3 {
			a := begin(t, l, n, nil)
			for _, item := range d.steps(b, n) {
				if e := a.Add(item.Row, item.N); e != api.OK {
					t.Fatalf("Add(%v, %d) = %d", item.Row, item.N, e)
				}
				if d.Intn(3) == 0 { // what is told between leaves nothing behind
					r, e := a.Result()
					checkTold(t, "Result between", r, e, l, a.Bag())
				}
			}
			r, e := a.Result()
			checkTold(t, "Result", r, e, l, b)
			checkAcc(t, "added in another order", a, b)
		}
	}
}

// Promise P5.3: also of parts that are not whole.
func TestMerged(t *testing.T) {
	d, merged := newDraws(3), 0
	for range 3000 {
		n := d.Intn(4)
		l, b := d.list(n), d.bag(n, d.Intn(4) > 0)
		parts := d.split(b)
		r, e := Two(l, n, parts)
		if e == api.ErrLimit {
			checkOnTheWay(t, parts)
			continue
		}
		checkTold(t, "Two", r, e, l, b)
		merged++
	}
	if merged < 2000 {
		t.Errorf("only %d of the bags could be merged", merged)
	}
}

// checkOnTheWay checks that the sum of some of the first parts is no valid bag.
func checkOnTheWay(t *testing.T, parts []api.Bag) {
	t.Helper()
	var b api.Bag
	for _, part := range parts {
		sum, e := bag.Sum(b, part)
		if e == api.ErrLimit {
			return
		}
		b = sum
	}
	t.Error("ErrLimit of parts that come to bags all the way")
}

// Promise P5.4: of single rows, and of all of another bag.
func TestBack(t *testing.T) {
	d := newDraws(4)
	for range 2000 {
		n := d.Intn(4)
		l, b := d.list(n), d.bag(n, d.Intn(4) > 0)
		a := begin(t, l, n, b)
		told, toldE := a.Result()
		same := func(what string) {
			t.Helper()
			r, e := a.Result()
			if !slices.Equal(r, told) || e != toldE || !bag.Same(a.Bag(), b) {
				t.Fatalf("%s: %q of %q, and before %q of %q", what, row.Text(r), bag.Format(a.Bag()), row.Text(told), bag.Format(b))
			}
		}
		r, count := d.row(n), 1+d.Intn(5)
		a.Add(r, count)
		a.Add(r, -count)
		same("a row in and out")
		a.Add(r, -count)
		a.Add(r, count)
		same("a row out and in")
		other := d.bag(n, false)
		back, _ := bag.Times(other, -1)
		in, out := begin(t, l, n, other), begin(t, l, n, back)
		if e := a.Merge(in); e != api.OK {
			continue
		}
		if e := a.Merge(out); e != api.OK {
			t.Fatalf("Merge of what is taken back = %d", e)
		}
		same("a bag in and out")
	}
}
