package interval_test

import (
	"math"
	"math/big"
	"math/rand"
	"slices"
	"testing"

	"intervalmon/api"
	"intervalmon/frac"
	"intervalmon/interval"
)

const most = api.MaxFrac

// f returns the fraction num/den as it is, valid or not.
func f(num, den int) api.Frac {
	return api.Frac{Num: num, Den: den}
}

// between returns the interval from lo to hi as it is, valid or not.
func between(lo, hi api.Frac) api.Interval {
	return api.Interval{Lo: lo, Hi: hi}
}

// whole returns the interval between two whole numbers.
func whole(lo, hi int) api.Interval {
	return between(f(lo, 1), f(hi, 1))
}

// none is what functions return when there is no result.
var none = api.Interval{}

// smallEnds are valid fractions whose results are all in range, in ascending order.
var smallEnds = []api.Frac{f(-7, 2), f(-2, 1), f(-1, 1), f(-1, 3), f(0, 1), f(1, 4), f(1, 1), f(3, 2), f(5, 1)}

// edgeEnds are valid fractions at the limits, in ascending order.
var edgeEnds = []api.Frac{f(-most, 1), f(-most+1, 2), f(-1, 1), f(-1, 2), f(-1, most-1), f(-1, most), f(0, 1),
	f(1, most), f(1, most-1), f(1, 3), f(most-1, most), f(1, 1), f(2, 1), f(most/2, 1), f(most-1, 1), f(most, 1)}

// intervalsOf returns all intervals between two of the ends, which are in ascending order.
func intervalsOf(ends []api.Frac) []api.Interval {
	var list []api.Interval
	for i, lo := range ends {
		for _, hi := range ends[i:] {
			list = append(list, between(lo, hi))
		}
	}
	return list
}

// invalidFracs are not valid, for every reason that there is.
var invalidFracs = []api.Frac{{}, f(1, 0), f(0, 2), f(2, 4), f(-3, 3), f(1, -1), f(-1, -2), f(most+1, 1), f(-most-1, 1),
	f(1, most+1), f(math.MinInt, 1), f(1, math.MinInt), f(math.MinInt, math.MinInt), f(math.MaxInt, 1), f(most, most)}

// invalid are intervals that are not valid, for every reason that there is.
func invalid() []api.Interval {
	list := []api.Interval{{}, whole(1, 0), whole(most, -most), whole(0, -1), between(f(1, 2), f(1, 3)), between(f(1, most-1), f(1, most))}
	for _, a := range invalidFracs {
		list = append(list, between(a, a), between(a, f(0, 1)), between(f(0, 1), a), between(a, f(most, 1)), between(f(-most, 1), a))
	}
	return list
}

// exact returns the value of a.
func exact(a api.Frac) *big.Rat {
	return big.NewRat(int64(a.Num), int64(a.Den))
}

// rounded returns the valid fraction with the value of r, and whether there is one.
func rounded(r *big.Rat) (api.Frac, bool) {
	limit := big.NewInt(most)
	if r.Num().CmpAbs(limit) > 0 || r.Denom().Cmp(limit) > 0 {
		return api.Frac{}, false
	}
	return f(int(r.Num().Int64()), int(r.Denom().Int64())), true
}

// extent returns the interval from the least to the greatest of some numbers, or ErrRange if one of them is not in range.
func extent(numbers ...*big.Rat) (api.Interval, api.Errno) {
	least, greatest := numbers[0], numbers[0]
	for _, n := range numbers {
		if _, ok := rounded(n); !ok {
			return none, api.ErrRange
		}
		if n.Cmp(least) < 0 {
			least = n
		}
		if n.Cmp(greatest) > 0 {
			greatest = n
		}
	}
	lo, _ := rounded(least)
	hi, _ := rounded(greatest)
	return between(lo, hi), api.OK
}

// four returns the results of an operation for the ends of x and y.
func four(of func(z, a, b *big.Rat) *big.Rat, x, y api.Interval) []*big.Rat {
	var list []*big.Rat
	for _, a := range []api.Frac{x.Lo, x.Hi} {
		for _, b := range []api.Frac{y.Lo, y.Hi} {
			list = append(list, of(new(big.Rat), exact(a), exact(b)))
		}
	}
	return list
}

// operation is an operation on two intervals, with what it does to two numbers, and what its result for valid intervals is.
type operation struct {
	name string
	of   func(x, y api.Interval) (api.Interval, api.Errno)
	one  func(a, b api.Frac) (api.Frac, api.Errno)
	want func(x, y api.Interval) (api.Interval, api.Errno)
}

var arithmetic = []operation{
	{"Add", interval.Add, frac.Add, func(x, y api.Interval) (api.Interval, api.Errno) {
		return extent(new(big.Rat).Add(exact(x.Lo), exact(y.Lo)), new(big.Rat).Add(exact(x.Hi), exact(y.Hi)))
	}},
	{"Sub", interval.Sub, frac.Sub, func(x, y api.Interval) (api.Interval, api.Errno) {
		return extent(new(big.Rat).Sub(exact(x.Lo), exact(y.Hi)), new(big.Rat).Sub(exact(x.Hi), exact(y.Lo)))
	}},
	{"Mul", interval.Mul, frac.Mul, func(x, y api.Interval) (api.Interval, api.Errno) {
		return extent(four((*big.Rat).Mul, x, y)...)
	}},
	{"Div", interval.Div, frac.Div, func(x, y api.Interval) (api.Interval, api.Errno) {
		if y.Lo.Num <= 0 && y.Hi.Num >= 0 {
			return none, api.ErrZero
		}
		return extent(four((*big.Rat).Quo, x, y)...)
	}},
}

var order = []operation{
	{"Min", sure(interval.Min), smaller, func(x, y api.Interval) (api.Interval, api.Errno) {
		return between(pick(x.Lo, y.Lo, -1), pick(x.Hi, y.Hi, -1)), api.OK
	}},
	{"Max", sure(interval.Max), greater, func(x, y api.Interval) (api.Interval, api.Errno) {
		return between(pick(x.Lo, y.Lo, 1), pick(x.Hi, y.Hi, 1)), api.OK
	}},
}

// hull has no counterpart for two numbers.
var hull = operation{"Hull", sure(interval.Hull), nil, func(x, y api.Interval) (api.Interval, api.Errno) {
	return between(pick(x.Lo, y.Lo, -1), pick(x.Hi, y.Hi, 1)), api.OK
}}

// sure adds OK to the result of a function that returns no error.
func sure(of func(x, y api.Interval) api.Interval) func(x, y api.Interval) (api.Interval, api.Errno) {
	return func(x, y api.Interval) (api.Interval, api.Errno) { return of(x, y), api.OK }
}

// pick returns the greater one of a and b for the sign 1, and the smaller one for -1.
func pick(a, b api.Frac, sign int) api.Frac {
	if exact(a).Cmp(exact(b))*sign >= 0 {
		return a
	}
	return b
}

func smaller(a, b api.Frac) (api.Frac, api.Errno) { return pick(a, b, -1), api.OK }
func greater(a, b api.Frac) (api.Frac, api.Errno) { return pick(a, b, 1), api.OK }

// all returns all operations on two intervals except Meet.
func all() []operation {
	return append(slices.Concat(arithmetic, order), hull)
}

// check checks an operation on valid intervals.
func (o operation) check(t *testing.T, x, y api.Interval) {
	t.Helper()
	want, wantErr := o.want(x, y)
	if got, err := o.of(x, y); got != want || err != wantErr {
		t.Errorf("%s(%v, %v) is %v, %d, want %v, %d", o.name, x, y, got, err, want, wantErr)
	}
}

// randomEnd returns a valid fraction; its numbers have many different sizes.
func randomEnd(r *rand.Rand) api.Frac {
	for {
		num, den := r.Intn(most+1)>>r.Intn(63), 1+r.Intn(most)>>r.Intn(63)
		if r.Intn(2) == 0 {
			num = -num
		}
		if a, err := frac.New(num, den); err == api.OK {
			return a
		}
	}
}

// smallEnd returns a valid fraction with small numbers.
func smallEnd(r *rand.Rand) api.Frac {
	a, _ := frac.New(r.Intn(41)-20, 1+r.Intn(6))
	return a
}

// random returns a valid interval between two fractions; half of them are small.
func random(r *rand.Rand) api.Interval {
	end := smallEnd
	if r.Intn(2) == 0 {
		end = randomEnd
	}
	a, b := end(r), end(r)
	if exact(a).Cmp(exact(b)) > 0 {
		a, b = b, a
	}
	return between(a, b)
}

// mean returns the number in the middle between a and b, or a if that is not in range.
func mean(a, b api.Frac) api.Frac {
	sum := new(big.Rat).Add(exact(a), exact(b))
	m, ok := rounded(sum.Quo(sum, big.NewRat(2, 1)))
	if !ok {
		return a
	}
	return m
}

// numbersOf returns some numbers of a valid interval, its ends among them.
func numbersOf(x api.Interval) []api.Frac {
	middle := mean(x.Lo, x.Hi)
	list := []api.Frac{x.Lo, x.Hi, middle, mean(x.Lo, middle), mean(middle, x.Hi)}
	if x.Lo.Num <= 0 && x.Hi.Num >= 0 {
		list = append(list, f(0, 1))
	}
	return list
}

// holds reports whether a valid interval contains a number.
func holds(x api.Interval, a *big.Rat) bool {
	return exact(x.Lo).Cmp(a) <= 0 && a.Cmp(exact(x.Hi)) <= 0
}

// P4.1: New and Valid accept exactly valid ends in ascending order.
func TestNew(t *testing.T) {
	ends := slices.Concat(smallEnds, edgeEnds)
	for _, lo := range ends {
		for _, hi := range ends {
			want, wantErr := between(lo, hi), api.OK
			if exact(lo).Cmp(exact(hi)) > 0 {
				want, wantErr = none, api.ErrArg
			}
			if got, err := interval.New(lo, hi); got != want || err != wantErr {
				t.Errorf("New(%v, %v) is %v, %d, want %v, %d", lo, hi, got, err, want, wantErr)
			}
			if got := interval.Valid(between(lo, hi)); got != (wantErr == api.OK) {
				t.Errorf("Valid(%v..%v) is %t", lo, hi, got)
			}
		}
	}
	for _, x := range invalid() {
		if got, err := interval.New(x.Lo, x.Hi); got != none || err != api.ErrArg {
			t.Errorf("New(%v, %v) is %v, %d", x.Lo, x.Hi, got, err)
		}
		if interval.Valid(x) {
			t.Errorf("%v is valid", x)
		}
	}
}

// P4.1: Point.
func TestPoint(t *testing.T) {
	for _, a := range slices.Concat(smallEnds, edgeEnds) {
		if got := interval.Point(a); got != between(a, a) {
			t.Errorf("Point(%v) is %v", a, got)
		}
	}
	for _, a := range invalidFracs {
		if got := interval.Point(a); got != none {
			t.Errorf("Point(%v) is %v", a, got)
		}
	}
}

// P4.2, P4.3: values worked out by hand.
func TestArithmeticKnown(t *testing.T) {
	third, tiny := between(f(1, 3), f(1, 3)), between(f(1, most), f(1, most))
	for _, c := range []struct {
		name string
		x, y api.Interval
		want api.Interval
		err  api.Errno
	}{
		{"Add", whole(1, 2), whole(-3, 5), whole(-2, 7), api.OK},
		{"Sub", whole(1, 2), whole(-3, 5), whole(-4, 5), api.OK},
		{"Sub", whole(0, 1), whole(0, 1), whole(-1, 1), api.OK},
		{"Sub", whole(-most, 0), whole(-most, -most), whole(0, most), api.OK},
		{"Mul", whole(-1, 2), whole(-3, 4), whole(-6, 8), api.OK},
		{"Mul", whole(-3, -2), whole(-5, -4), whole(8, 15), api.OK},
		{"Mul", whole(-3, -2), whole(4, 5), whole(-15, -8), api.OK},
		{"Mul", whole(0, 0), whole(-most, most), whole(0, 0), api.OK},
		{"Mul", whole(-2, 3), whole(-7, 1), whole(-21, 14), api.OK},
		{"Div", whole(1, 2), whole(4, 8), between(f(1, 8), f(1, 2)), api.OK},
		{"Div", whole(-1, 2), whole(-4, -2), between(f(-1, 1), f(1, 2)), api.OK},
		{"Div", whole(0, 0), whole(3, 4), whole(0, 0), api.OK},
		// y contains 0, inside or at an end; then it does not matter which quotients are in range.
		{"Div", whole(1, 2), whole(-1, 1), none, api.ErrZero},
		{"Div", whole(1, 2), whole(0, 1), none, api.ErrZero},
		{"Div", whole(1, 2), whole(-1, 0), none, api.ErrZero},
		{"Div", whole(0, 0), whole(0, 0), none, api.ErrZero},
		{"Div", whole(most, most), between(f(-1, 3), f(1, most)), none, api.ErrZero},
		// One of the numbers is not in range: the lower one, the upper one, or one between them.
		{"Add", whole(-most, 0), whole(-1, 0), none, api.ErrRange},
		{"Add", whole(0, most), whole(0, 1), none, api.ErrRange},
		{"Sub", whole(-most, 0), whole(0, 1), none, api.ErrRange},
		{"Sub", whole(0, most), whole(-1, 0), none, api.ErrRange},
		{"Mul", whole(-most, 1), whole(1, 2), none, api.ErrRange},
		{"Mul", whole(1, most), whole(1, 2), none, api.ErrRange},
		{"Mul", between(f(1, most), f(1, 1)), between(f(1, 3), f(1, 1)), none, api.ErrRange},
		{"Mul", between(f(0, 1), f(1, most)), between(f(1, 3), f(most, 1)), none, api.ErrRange},
		{"Mul", between(f(-1, 1), f(1, most)), between(f(-1, 1), f(1, 3)), none, api.ErrRange},
		{"Div", between(f(1, most), f(1, 1)), whole(1, 3), none, api.ErrRange},
		{"Div", whole(1, most), between(f(1, 2), f(1, 1)), none, api.ErrRange},
		// Only the two numbers that become the ends count in a sum: -MaxFrac + 1/3 and MaxFrac - 1/3 would not be in range.
		{"Add", between(f(-most, 1), f(2, 3)), between(f(0, 1), f(1, 3)), whole(-most, 1), api.OK},
		{"Sub", between(f(-most, 1), f(2, 3)), between(f(-1, 3), f(0, 1)), whole(-most, 1), api.OK},
		{"Add", third, tiny, none, api.ErrRange},
	} {
		for _, o := range arithmetic {
			if o.name != c.name {
				continue
			}
			if got, err := o.of(c.x, c.y); got != c.want || err != c.err {
				t.Errorf("%s(%v, %v) is %v, %d, want %v, %d", c.name, c.x, c.y, got, err, c.want, c.err)
			}
		}
	}
}

// P4.2, P4.3, P4.4: all pairs of small intervals, all pairs of intervals at the limits, and random ones.
func TestOperations(t *testing.T) {
	for _, o := range all() {
		for _, list := range [][]api.Interval{intervalsOf(smallEnds), intervalsOf(edgeEnds)} {
			for _, x := range list {
				for _, y := range list {
					o.check(t, x, y)
				}
			}
		}
		r := rand.New(rand.NewSource(1))
		for range 5000 {
			o.check(t, random(r), random(r))
		}
	}
}

// P4.2, P4.3, P4.4, P4.6: an argument that is not valid is reported first, also where the other one leads to another error.
func TestOperationsInvalid(t *testing.T) {
	good := []api.Interval{whole(0, 0), whole(-1, 1), whole(1, 2), whole(-most, most), whole(most, most)}
	for _, bad := range invalid() {
		for _, x := range append(good, bad) {
			for _, o := range append(slices.Clone(arithmetic), operation{name: "Meet", of: interval.Meet}) {
				if got, err := o.of(x, bad); got != none || err != api.ErrArg {
					t.Errorf("%s(%v, %v) is %v, %d", o.name, x, bad, got, err)
				}
				if got, err := o.of(bad, x); got != none || err != api.ErrArg {
					t.Errorf("%s(%v, %v) is %v, %d", o.name, bad, x, got, err)
				}
			}
			for _, o := range append(slices.Clone(order), hull) {
				got, _ := o.of(x, bad)
				swapped, _ := o.of(bad, x)
				if got != none || swapped != none {
					t.Errorf("%s of %v and %v is %v and %v", o.name, x, bad, got, swapped)
				}
			}
		}
	}
}

// P4.4: values worked out by hand.
func TestOrderKnown(t *testing.T) {
	for _, c := range []struct {
		x, y           api.Interval
		min, max, hull api.Interval
	}{
		{whole(0, 5), whole(1, 3), whole(0, 3), whole(1, 5), whole(0, 5)},
		{whole(0, 1), whole(4, 5), whole(0, 1), whole(4, 5), whole(0, 5)},
		{whole(4, 5), whole(0, 1), whole(0, 1), whole(4, 5), whole(0, 5)},
		{whole(0, 3), whole(2, 5), whole(0, 3), whole(2, 5), whole(0, 5)},
		{whole(2, 2), whole(2, 2), whole(2, 2), whole(2, 2), whole(2, 2)},
		{between(f(1, 3), f(1, 2)), between(f(-1, 2), f(2, 5)), between(f(-1, 2), f(2, 5)), between(f(1, 3), f(1, 2)), between(f(-1, 2), f(1, 2))},
	} {
		if got := interval.Min(c.x, c.y); got != c.min {
			t.Errorf("Min(%v, %v) is %v", c.x, c.y, got)
		}
		if got := interval.Max(c.x, c.y); got != c.max {
			t.Errorf("Max(%v, %v) is %v", c.x, c.y, got)
		}
		if got := interval.Hull(c.x, c.y); got != c.hull {
			t.Errorf("Hull(%v, %v) is %v", c.x, c.y, got)
		}
	}
}

// P4.5: values worked out by hand.
func TestKthKnown(t *testing.T) {
	three := []api.Interval{whole(4, 6), whole(-1, 9), whole(5, 5)}
	bad := []api.Interval{whole(0, 1), whole(1, 0), whole(2, 3)}
	for _, c := range []struct {
		l    []api.Interval
		k    int
		want api.Interval
		err  api.Errno
	}{
		{[]api.Interval{whole(0, 9), whole(1, 2)}, 1, whole(0, 2), api.OK},
		{[]api.Interval{whole(0, 9), whole(1, 2)}, 2, whole(1, 9), api.OK},
		{three, 1, whole(-1, 5), api.OK},
		{three, 2, whole(4, 6), api.OK},
		{three, 3, whole(5, 9), api.OK},
		{[]api.Interval{whole(3, 4), whole(3, 4), whole(3, 8)}, 2, whole(3, 4), api.OK},
		{[]api.Interval{between(f(1, 3), f(1, 2))}, 1, between(f(1, 3), f(1, 2)), api.OK},
		{three, 0, none, api.ErrArg},
		{three, 4, none, api.ErrArg},
		{three, -1, none, api.ErrArg},
		{three, math.MinInt, none, api.ErrArg},
		{three, math.MaxInt, none, api.ErrArg},
		{nil, 0, none, api.ErrArg},
		{nil, 1, none, api.ErrArg},
		{[]api.Interval{}, 1, none, api.ErrArg},
		// Every element counts, also one that would not be the k-th.
		{bad, 1, none, api.ErrArg},
		{bad, 3, none, api.ErrArg},
		{bad, 4, none, api.ErrArg},
	} {
		if got, err := interval.Kth(c.l, c.k); got != c.want || err != c.err {
			t.Errorf("Kth(%v, %d) is %v, %d, want %v, %d", c.l, c.k, got, err, c.want, c.err)
		}
	}
}

// P4.5: an element that is not valid, at every place.
func TestKthInvalid(t *testing.T) {
	for _, bad := range invalid() {
		for place := range 3 {
			l := []api.Interval{whole(0, 1), whole(-most, most), whole(2, 2)}
			l[place] = bad
			for k := 1; k <= 3; k++ {
				if got, err := interval.Kth(l, k); got != none || err != api.ErrArg {
					t.Errorf("Kth(%v, %d) is %v, %d", l, k, got, err)
				}
			}
		}
	}
}

// randomList returns 1 to most random intervals, some of them equal.
func randomList(r *rand.Rand, most int) []api.Interval {
	var l []api.Interval
	for range 1 + r.Intn(most) {
		x := random(r)
		if len(l) > 0 && r.Intn(4) == 0 {
			x = l[r.Intn(len(l))]
		}
		l = append(l, x)
	}
	return l
}

// isKth reports whether a is the k-th smallest of the numbers: fewer than k are smaller, and at least k are not greater.
func isKth(numbers []api.Frac, k int, a api.Frac) bool {
	smaller, notGreater := 0, 0
	for _, b := range numbers {
		c := exact(b).Cmp(exact(a))
		if c < 0 {
			smaller++
		}
		if c <= 0 {
			notGreater++
		}
	}
	return smaller < k && k <= notGreater
}

// P4.5, P4.13, and R4: Kth against a count, for lists in any order, which it leaves as they were.
func TestKth(t *testing.T) {
	r := rand.New(rand.NewSource(2))
	for range 2000 {
		l := randomList(r, 8)
		var lower, upper []api.Frac
		for _, x := range l {
			lower, upper = append(lower, x.Lo), append(upper, x.Hi)
		}
		k := 1 + r.Intn(len(l))
		backing := append(slices.Clone(l), whole(7, 7))
		given := backing[:len(l)]
		got, err := interval.Kth(given, k)
		if err != api.OK || !isKth(lower, k, got.Lo) || !isKth(upper, k, got.Hi) {
			t.Fatalf("Kth(%v, %d) is %v, %d", l, k, got, err)
		}
		if !slices.Equal(given, l) || backing[len(l)] != whole(7, 7) {
			t.Fatalf("Kth(%v, %d) changed its argument to %v", l, k, backing)
		}
		shuffled := slices.Clone(l)
		r.Shuffle(len(l), func(i, j int) { shuffled[i], shuffled[j] = shuffled[j], shuffled[i] })
		if again, err := interval.Kth(shuffled, k); again != got || err != api.OK {
			t.Fatalf("Kth(%v, %d) is %v, but Kth(%v, %d) is %v, %d", l, k, got, shuffled, k, again, err)
		}
	}
}

// P4.13: the k-th smallest of numbers chosen from the intervals.
func TestKthContains(t *testing.T) {
	r := rand.New(rand.NewSource(3))
	for range 5000 {
		l := randomList(r, 6)
		var chosen []api.Frac
		for _, x := range l {
			numbers := numbersOf(x)
			chosen = append(chosen, numbers[r.Intn(len(numbers))])
		}
		for k := 1; k <= len(l); k++ {
			got, err := interval.Kth(l, k)
			if err != api.OK {
				t.Fatalf("Kth(%v, %d) is an error: %d", l, k, err)
			}
			for _, a := range chosen {
				if isKth(chosen, k, a) && !holds(got, exact(a)) {
					t.Errorf("Kth(%v, %d) is %v, and does not contain %v of %v", l, k, got, a, chosen)
				}
			}
		}
	}
}

// P4.6: values worked out by hand.
func TestMeetKnown(t *testing.T) {
	for _, c := range []struct {
		x, y api.Interval
		want api.Interval
		err  api.Errno
	}{
		{whole(0, 3), whole(2, 5), whole(2, 3), api.OK},
		{whole(0, 9), whole(2, 5), whole(2, 5), api.OK},
		{whole(0, 2), whole(2, 5), whole(2, 2), api.OK},
		{whole(3, 3), whole(3, 3), whole(3, 3), api.OK},
		{whole(0, 1), whole(2, 3), none, api.ErrNone},
		{whole(2, 3), whole(0, 1), none, api.ErrNone},
		{between(f(0, 1), f(1, most)), between(f(1, most-1), f(1, 1)), none, api.ErrNone},
		{whole(-most, -most), whole(most, most), none, api.ErrNone},
	} {
		if got, err := interval.Meet(c.x, c.y); got != c.want || err != c.err {
			t.Errorf("Meet(%v, %v) is %v, %d, want %v, %d", c.x, c.y, got, err, c.want, c.err)
		}
	}
}

// P4.6, P4.7: a number is in Meet exactly if it is in both; whether an interval is within another one.
func TestMeetWithin(t *testing.T) {
	for _, ends := range [][]api.Frac{smallEnds, edgeEnds} {
		for _, x := range intervalsOf(ends) {
			for _, y := range intervalsOf(ends) {
				both, err := interval.Meet(x, y)
				inside := true
				for _, a := range ends {
					inX, inY := holds(x, exact(a)), holds(y, exact(a))
					inside = inside && (!inX || inY)
					if inBoth := err == api.OK && holds(both, exact(a)); inBoth != (inX && inY) {
						t.Errorf("Meet(%v, %v) is %v, %d, for %v", x, y, both, err, a)
					}
					if err == api.ErrNone && (inX && inY || both != none) || err != api.OK && err != api.ErrNone {
						t.Errorf("Meet(%v, %v) is %v, %d", x, y, both, err)
					}
				}
				if got := interval.Within(x, y); got != inside {
					t.Errorf("Within(%v, %v) is %t", x, y, got)
				}
			}
		}
	}
}

// P4.7: Contains, for valid arguments.
func TestContains(t *testing.T) {
	for _, ends := range [][]api.Frac{smallEnds, edgeEnds} {
		for _, x := range intervalsOf(ends) {
			for _, a := range slices.Concat(smallEnds, edgeEnds) {
				if got := interval.Contains(x, a); got != holds(x, exact(a)) {
					t.Errorf("Contains(%v, %v) is %t", x, a, got)
				}
			}
		}
	}
}

// P4.7: nothing is within an interval that is not valid, nor within a valid one if it is not valid itself.
func TestWithinInvalid(t *testing.T) {
	for _, bad := range invalid() {
		for _, x := range []api.Interval{whole(0, 0), whole(-most, most), whole(1, 2), bad} {
			if interval.Within(x, bad) || interval.Within(bad, x) {
				t.Errorf("Within of %v and %v", x, bad)
			}
		}
		for _, a := range append(slices.Clone(edgeEnds), bad.Lo, bad.Hi) {
			if interval.Contains(bad, a) {
				t.Errorf("Contains(%v, %v)", bad, a)
			}
		}
	}
	for _, a := range invalidFracs {
		for _, x := range []api.Interval{whole(-most, most), whole(0, 0), between(a, a)} {
			if interval.Contains(x, a) {
				t.Errorf("Contains(%v, %v)", x, a)
			}
		}
	}
}

// P4.8: the width, in range or not.
func TestWidth(t *testing.T) {
	r := rand.New(rand.NewSource(4))
	list := slices.Concat(intervalsOf(smallEnds), intervalsOf(edgeEnds))
	for range 5000 {
		list = append(list, random(r))
	}
	list = append(list, whole(-most, 0), whole(-most, 1), whole(0, most), whole(-1, most), between(f(1, most), f(1, 3)))
	for _, x := range list {
		want, ok := rounded(new(big.Rat).Sub(exact(x.Hi), exact(x.Lo)))
		wantErr := api.OK
		if !ok {
			wantErr = api.ErrRange
		}
		if got, err := interval.Width(x); got != want || err != wantErr {
			t.Errorf("Width(%v) is %v, %d, want %v, %d", x, got, err, want, wantErr)
		}
	}
	for _, x := range invalid() {
		if got, err := interval.Width(x); got != (api.Frac{}) || err != api.ErrArg {
			t.Errorf("Width(%v) is %v, %d", x, got, err)
		}
	}
}

// P4.8: values worked out by hand.
func TestWidthKnown(t *testing.T) {
	for _, c := range []struct {
		x    api.Interval
		want api.Frac
		err  api.Errno
	}{
		{whole(3, 5), f(2, 1), api.OK},
		{whole(-3, 5), f(8, 1), api.OK},
		{whole(4, 4), f(0, 1), api.OK},
		{between(f(1, 3), f(1, 2)), f(1, 6), api.OK},
		{whole(-most, 0), f(most, 1), api.OK},
		{whole(-most, 1), api.Frac{}, api.ErrRange},
	} {
		if got, err := interval.Width(c.x); got != c.want || err != c.err {
			t.Errorf("Width(%v) is %v, %d, want %v, %d", c.x, got, err, c.want, c.err)
		}
	}
}

// P4.9: values worked out by hand.
func TestVerdictsKnown(t *testing.T) {
	for _, c := range []struct {
		x               api.Interval
		c               api.Frac
		atLeast, atMost int
	}{
		{whole(3, 5), f(2, 1), api.Must, api.Cannot},
		{whole(3, 5), f(3, 1), api.Must, api.May},
		{whole(3, 5), f(4, 1), api.May, api.May},
		{whole(3, 5), f(5, 1), api.May, api.Must},
		{whole(3, 5), f(6, 1), api.Cannot, api.Must},
		{whole(4, 4), f(4, 1), api.Must, api.Must},
		{whole(0, 1), f(1, most), api.May, api.May},
		{between(f(1, most-1), f(1, 1)), f(1, most), api.Must, api.Cannot},
		{between(f(0, 1), f(1, most)), f(1, most-1), api.Cannot, api.Must},
	} {
		if got := interval.AtLeast(c.x, c.c); got != c.atLeast {
			t.Errorf("AtLeast(%v, %v) is %d, want %d", c.x, c.c, got, c.atLeast)
		}
		if got := interval.AtMost(c.x, c.c); got != c.atMost {
			t.Errorf("AtMost(%v, %v) is %d, want %d", c.x, c.c, got, c.atMost)
		}
	}
}

// P4.9: May if an argument is not valid, also where the other one would decide.
func TestVerdictsInvalid(t *testing.T) {
	for _, bad := range invalid() {
		for _, c := range append(slices.Clone(edgeEnds), bad.Lo, bad.Hi) {
			if interval.AtLeast(bad, c) != api.May || interval.AtMost(bad, c) != api.May {
				t.Errorf("the verdicts on %v and %v are %d and %d", bad, c, interval.AtLeast(bad, c), interval.AtMost(bad, c))
			}
		}
	}
	for _, c := range invalidFracs {
		for _, x := range append(intervalsOf(edgeEnds), none) {
			if interval.AtLeast(x, c) != api.May || interval.AtMost(x, c) != api.May {
				t.Errorf("the verdicts on %v and %v are %d and %d", x, c, interval.AtLeast(x, c), interval.AtMost(x, c))
			}
		}
	}
}

// statement is a statement about a number and a limit, with the function that judges it.
type statement struct {
	name    string
	verdict func(x api.Interval, c api.Frac) int
	is      func(a, c api.Frac) bool
}

var statements = []statement{
	{"AtLeast", interval.AtLeast, func(a, c api.Frac) bool { return exact(a).Cmp(exact(c)) >= 0 }},
	{"AtMost", interval.AtMost, func(a, c api.Frac) bool { return exact(a).Cmp(exact(c)) <= 0 }},
}

// P4.9, P4.12: Must and Cannot hold for every number, and for every interval within; May is a verdict on numbers of both kinds.
func TestVerdicts(t *testing.T) {
	for _, s := range statements {
		for _, ends := range [][]api.Frac{smallEnds, edgeEnds} {
			list := intervalsOf(ends)
			for _, x := range list {
				for _, c := range ends {
					s.check(t, x, c)
					for _, y := range list {
						v := s.verdict(x, c)
						if v != api.May && interval.Within(y, x) && s.verdict(y, c) != v {
							t.Errorf("%s(%v, %v) is %d, but %d for %v", s.name, x, c, v, s.verdict(y, c), y)
						}
					}
				}
			}
		}
	}
}

// check checks a verdict against the ends and other numbers of x.
func (s statement) check(t *testing.T, x api.Interval, c api.Frac) {
	t.Helper()
	yes, no := 0, 0
	for _, a := range numbersOf(x) {
		if s.is(a, c) {
			yes++
		} else {
			no++
		}
	}
	want := api.May
	if no == 0 {
		want = api.Must
	} else if yes == 0 {
		want = api.Cannot
	}
	if got := s.verdict(x, c); got != want {
		t.Errorf("%s(%v, %v) is %d, want %d", s.name, x, c, got, want)
	}
}

// tight reports whether a is a result for an end of x and an end of y.
func (o operation) tight(x, y api.Interval, a api.Frac) bool {
	for _, left := range []api.Frac{x.Lo, x.Hi} {
		for _, right := range []api.Frac{y.Lo, y.Hi} {
			if result, err := o.one(left, right); err == api.OK && result == a {
				return true
			}
		}
	}
	return false
}

// smallest checks P4.10 for an operation on two intervals, and returns the number of results that it looked at.
func (o operation) smallest(t *testing.T, x, y api.Interval) int {
	t.Helper()
	got, err := o.of(x, y)
	if err != api.OK {
		return 0
	}
	if !interval.Valid(got) || !o.tight(x, y, got.Lo) || !o.tight(x, y, got.Hi) {
		t.Errorf("%s(%v, %v) is %v, whose ends are no results for ends", o.name, x, y, got)
	}
	looked := 0
	for _, a := range numbersOf(x) {
		for _, b := range numbersOf(y) {
			result, err := o.one(a, b)
			if err != api.OK {
				continue
			}
			looked++
			if !holds(got, exact(result)) {
				t.Errorf("%s(%v, %v) is %v, and does not contain %v, the result for %v and %v", o.name, x, y, got, result, a, b)
			}
		}
	}
	return looked
}

// P4.10: the result contains all results for numbers of the intervals, and its ends are results for ends.
func TestSmallest(t *testing.T) {
	for _, o := range slices.Concat(arithmetic, order) {
		looked := 0
		for _, list := range [][]api.Interval{intervalsOf(smallEnds), intervalsOf(edgeEnds)} {
			for _, x := range list {
				for _, y := range list {
					looked += o.smallest(t, x, y)
				}
			}
		}
		r := rand.New(rand.NewSource(5))
		for range 2000 {
			looked += o.smallest(t, random(r), random(r))
		}
		if looked < 20000 {
			t.Errorf("%s: only %d results were looked at", o.name, looked)
		}
	}
}

// narrower returns an interval within a valid interval.
func narrower(r *rand.Rand, x api.Interval) api.Interval {
	numbers := numbersOf(x)
	a, b := numbers[r.Intn(len(numbers))], numbers[r.Intn(len(numbers))]
	return between(pick(a, b, -1), pick(a, b, 1))
}

// P4.11: narrower arguments lead to a result within the previous one, and never to ErrZero where there was no error.
func TestNarrowing(t *testing.T) {
	small, edge := intervalsOf(smallEnds), intervalsOf(edgeEnds)
	for _, o := range all() {
		r := rand.New(rand.NewSource(6))
		compared := 0
		for range 10000 {
			x, y := random(r), random(r)
			switch r.Intn(3) {
			case 0:
				x, y = small[r.Intn(len(small))], small[r.Intn(len(small))]
			case 1:
				x, y = edge[r.Intn(len(edge))], edge[r.Intn(len(edge))]
			}
			u, v := narrower(r, x), narrower(r, y)
			before, err := o.of(x, y)
			if err != api.OK {
				continue
			}
			after, err := o.of(u, v)
			if err == api.OK {
				compared++
			}
			if err == api.OK && !interval.Within(after, before) || err != api.OK && err != api.ErrRange {
				t.Errorf("%s(%v, %v) is %v, but %v, %d for %v and %v", o.name, x, y, before, after, err, u, v)
			}
		}
		if compared < 2000 {
			t.Errorf("%s: only %d results were compared", o.name, compared)
		}
	}
}

// P4.11: narrower arguments can lead to numbers that are not in range, although the previous ones are.
func TestNarrowingOutOfRange(t *testing.T) {
	tiny := interval.Point(f(1, most))
	for _, c := range []struct {
		name string
		x, y api.Interval
		want api.Interval
		v    api.Interval
	}{
		{"Add", whole(0, 1), whole(0, 1), whole(0, 2), interval.Point(f(1, 3))},
		{"Sub", whole(0, 1), whole(0, 1), whole(-1, 1), interval.Point(f(1, 3))},
		{"Mul", whole(0, 1), whole(0, 1), whole(0, 1), interval.Point(f(1, 3))},
		{"Div", whole(0, 1), whole(1, 3), whole(0, 1), whole(3, 3)},
	} {
		for _, o := range arithmetic {
			if o.name != c.name {
				continue
			}
			if got, err := o.of(c.x, c.y); got != c.want || err != api.OK {
				t.Errorf("%s(%v, %v) is %v, %d, want %v", c.name, c.x, c.y, got, err, c.want)
			}
			if got, err := o.of(tiny, c.v); got != none || err != api.ErrRange {
				t.Errorf("%s(%v, %v) is %v, %d", c.name, tiny, c.v, got, err)
			}
		}
	}
}
