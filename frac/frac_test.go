package frac_test

import (
	"math"
	"math/big"
	"math/rand"
	"strconv"
	"testing"

	"intervalmon/api"
	"intervalmon/frac"
	"intervalmon/hash"
	"intervalmon/wire"
)

const most = api.MaxFrac

// edges are numbers at which something changes: signs, limits, and the sizes at which products need a second word.
func edges() []int {
	list := []int{0, math.MinInt, math.MaxInt}
	for _, n := range []int{1, 2, 3, 4, 6, 1<<31 - 1, 1 << 31, 1<<31 + 1, 1<<32 - 1, 1 << 32, 1<<32 + 1,
		1 << 61, 3 << 60, 1<<61 + 1, most - 1, most, most + 1, 3 * ((1<<62 - 1) / 3), math.MaxInt - 1, math.MaxInt} {
		list = append(list, n, -n)
	}
	return list
}

// edgeFracs are all pairs of edges, valid or not.
func edgeFracs() []api.Frac {
	var list []api.Frac
	for _, num := range edges() {
		for _, den := range edges() {
			list = append(list, api.Frac{Num: num, Den: den})
		}
	}
	return list
}

// validEdges are those of the edgeFracs that are valid, as far as math/big tells.
func validEdges() []api.Frac {
	var list []api.Frac
	for _, a := range edgeFracs() {
		if isValid(a) {
			list = append(list, a)
		}
	}
	return list
}

// isValid decides whether a is valid with math/big.
func isValid(a api.Frac) bool {
	if a.Den < 1 || a.Den > most || a.Num < -most || a.Num > most {
		return false
	}
	r := exact(a)
	return r.Num().Int64() == int64(a.Num) && r.Denom().Int64() == int64(a.Den)
}

// exact returns the value of a; its denominator is not 0.
func exact(a api.Frac) *big.Rat {
	return big.NewRat(int64(a.Num), int64(a.Den))
}

// expected returns the valid fraction with the value of r, or ErrRange.
func expected(r *big.Rat) (api.Frac, api.Errno) {
	limit := big.NewInt(most)
	if r.Num().CmpAbs(limit) > 0 || r.Denom().Cmp(limit) > 0 {
		return api.Frac{}, api.ErrRange
	}
	return api.Frac{Num: int(r.Num().Int64()), Den: int(r.Denom().Int64())}, api.OK
}

// operation is one of the four functions with its counterpart in math/big.
type operation struct {
	name  string
	of    func(a, b api.Frac) (api.Frac, api.Errno)
	exact func(z, a, b *big.Rat) *big.Rat
}

var operations = []operation{
	{"Add", frac.Add, (*big.Rat).Add},
	{"Sub", frac.Sub, (*big.Rat).Sub},
	{"Mul", frac.Mul, (*big.Rat).Mul},
	{"Div", frac.Div, (*big.Rat).Quo},
}

// check checks an operation on valid fractions against math/big.
func (o operation) check(t *testing.T, a, b api.Frac) {
	t.Helper()
	want, wantErr := api.Frac{}, api.ErrZero
	if o.name != "Div" || b.Num != 0 {
		want, wantErr = expected(o.exact(new(big.Rat), exact(a), exact(b)))
	}
	if got, err := o.of(a, b); got != want || err != wantErr {
		t.Errorf("%s(%v, %v) is %v, %d, want %v, %d", o.name, a, b, got, err, want, wantErr)
	}
}

// random returns a valid fraction; its numbers have many different sizes, and often common divisors with those of others.
func random(r *rand.Rand) api.Frac {
	for {
		a, err := frac.New(randomInt(r), randomInt(r))
		if err == api.OK {
			return a
		}
	}
}

// randomInt returns a number from -MaxFrac to MaxFrac.
func randomInt(r *rand.Rand) int {
	n := r.Intn(most+1) >> r.Intn(63)
	switch r.Intn(4) {
	case 0:
		n = 1 << r.Intn(63)
	case 1:
		n = 2 * 3 * 5 * 7 * (n / 1000)
	}
	if r.Intn(2) == 0 {
		return -n
	}
	return n
}

// small returns a valid fraction with small numbers, so that results of several operations are in range.
func small(r *rand.Rand) api.Frac {
	a, _ := frac.New(r.Intn(81)-40, 1+r.Intn(40))
	return a
}

// P3.1: values worked out by hand.
func TestNewKnown(t *testing.T) {
	for _, c := range []struct {
		num, den int
		want     api.Frac
		err      api.Errno
	}{
		{6, -8, api.Frac{Num: -3, Den: 4}, api.OK},
		{-6, -8, api.Frac{Num: 3, Den: 4}, api.OK},
		{-6, 8, api.Frac{Num: -3, Den: 4}, api.OK},
		{0, 5, api.Frac{Num: 0, Den: 1}, api.OK},
		{0, -5, api.Frac{Num: 0, Den: 1}, api.OK},
		{7, 7, api.Frac{Num: 1, Den: 1}, api.OK},
		{most, 1, api.Frac{Num: most, Den: 1}, api.OK},
		{-most, 1, api.Frac{Num: -most, Den: 1}, api.OK},
		{1, -most, api.Frac{Num: -1, Den: most}, api.OK},
		{most, most, api.Frac{Num: 1, Den: 1}, api.OK},
		{most - 1, most, api.Frac{Num: most - 1, Den: most}, api.OK},
		// Numbers beyond the limit whose quotient is within it.
		{math.MaxInt, math.MaxInt, api.Frac{Num: 1, Den: 1}, api.OK},
		{-math.MaxInt, math.MaxInt, api.Frac{Num: -1, Den: 1}, api.OK},
		{math.MaxInt - 1, 2, api.Frac{Num: math.MaxInt / 2, Den: 1}, api.OK},
		{2, math.MaxInt - 1, api.Frac{Num: 1, Den: math.MaxInt / 2}, api.OK},
		{math.MaxInt, 1, api.Frac{}, api.ErrRange},
		{1, math.MaxInt, api.Frac{}, api.ErrRange},
		{most + 1, 1, api.Frac{}, api.ErrRange},
		{-most - 1, 1, api.Frac{}, api.ErrRange},
		{1, most + 1, api.Frac{}, api.ErrRange},
		{1, -most - 1, api.Frac{}, api.ErrRange},
		// The least int is refused even where the quotient is in range, but a zero denominator before it.
		{math.MinInt, math.MinInt, api.Frac{}, api.ErrRange},
		{math.MinInt, 2, api.Frac{}, api.ErrRange},
		{0, math.MinInt, api.Frac{}, api.ErrRange},
		{2, math.MinInt, api.Frac{}, api.ErrRange},
		{math.MinInt, 0, api.Frac{}, api.ErrZero},
		{0, 0, api.Frac{}, api.ErrZero},
		{5, 0, api.Frac{}, api.ErrZero},
		{math.MaxInt, 0, api.Frac{}, api.ErrZero},
	} {
		if got, err := frac.New(c.num, c.den); got != c.want || err != c.err {
			t.Errorf("New(%d, %d) is %v, %d, want %v, %d", c.num, c.den, got, err, c.want, c.err)
		}
	}
}

// checkNew checks New against math/big.
func checkNew(t *testing.T, num, den int) {
	t.Helper()
	var want api.Frac
	var wantErr api.Errno
	switch {
	case den == 0:
		wantErr = api.ErrZero
	case num == math.MinInt || den == math.MinInt:
		wantErr = api.ErrRange
	default:
		want, wantErr = expected(big.NewRat(int64(num), int64(den)))
	}
	if got, err := frac.New(num, den); got != want || err != wantErr {
		t.Errorf("New(%d, %d) is %v, %d, want %v, %d", num, den, got, err, want, wantErr)
	}
}

// P3.1: all edges, all small numbers, and random numbers.
func TestNew(t *testing.T) {
	for _, a := range edgeFracs() {
		checkNew(t, a.Num, a.Den)
	}
	for num := -30; num <= 30; num++ {
		for den := -30; den <= 30; den++ {
			checkNew(t, num, den)
		}
	}
	r := rand.New(rand.NewSource(1))
	for range 20000 {
		checkNew(t, randomInt(r), randomInt(r))
		checkNew(t, int(r.Uint64()), int(r.Uint64())>>r.Intn(64))
	}
}

// P3.2: values worked out by hand.
func TestValidKnown(t *testing.T) {
	for _, c := range []struct {
		num, den int
		want     bool
	}{
		{0, 1, true}, {1, 1, true}, {-1, 1, true}, {3, 4, true}, {-3, 4, true},
		{most, 1, true}, {-most, 1, true}, {1, most, true}, {-1, most, true}, {most - 1, most, true},
		{0, 0, false}, {1, 0, false}, {0, 2, false}, {0, most, false}, {0, -1, false}, {1, -1, false},
		{2, 4, false}, {-2, 4, false}, {2, 2, false}, {3, -4, false}, {most, most, false}, {most, 2, false},
		{most + 1, 1, false}, {-most - 1, 1, false}, {1, most + 1, false}, {math.MinInt, 1, false},
		{1, math.MinInt, false}, {math.MinInt, math.MinInt, false}, {math.MaxInt, 1, false}, {1, math.MaxInt, false},
	} {
		if got := frac.Valid(api.Frac{Num: c.num, Den: c.den}); got != c.want {
			t.Errorf("Valid(%d/%d) is %t", c.num, c.den, got)
		}
	}
}

// P3.2: all edges, and all small numbers.
func TestValid(t *testing.T) {
	for _, a := range edgeFracs() {
		if got := frac.Valid(a); got != isValid(a) {
			t.Errorf("Valid(%v) is %t", a, got)
		}
	}
	for num := -40; num <= 40; num++ {
		for den := -40; den <= 40; den++ {
			a := api.Frac{Num: num, Den: den}
			if got := frac.Valid(a); got != isValid(a) {
				t.Errorf("Valid(%v) is %t", a, got)
			}
		}
	}
}

// P3.1, P3.2: equal numbers have the same valid fraction, and New returns nothing else.
func TestNewIsValid(t *testing.T) {
	for num := -20; num <= 20; num++ {
		for den := 1; den <= 20; den++ {
			a, err := frac.New(num, den)
			if err != api.OK || !frac.Valid(a) || a.Num*den != num*a.Den {
				t.Errorf("New(%d, %d) is %v, %d", num, den, a, err)
			}
			for _, k := range []int{-7, -1, 2, 30} {
				if b, _ := frac.New(num*k, den*k); b != a {
					t.Errorf("New(%d, %d) is %v, want %v", num*k, den*k, b, a)
				}
			}
		}
	}
}

// P3.3, P3.4: values worked out by hand.
func TestOperationsKnown(t *testing.T) {
	half, third, zero := api.Frac{Num: 1, Den: 2}, api.Frac{Num: 1, Den: 3}, api.Frac{Num: 0, Den: 1}
	one, large := api.Frac{Num: 1, Den: 1}, api.Frac{Num: most, Den: 1}
	tiny, bad := api.Frac{Num: 1, Den: most}, api.Frac{Num: 2, Den: 4}
	for _, c := range []struct {
		name string
		a, b api.Frac
		want api.Frac
		err  api.Errno
	}{
		{"Add", half, third, api.Frac{Num: 5, Den: 6}, api.OK},
		{"Sub", half, third, api.Frac{Num: 1, Den: 6}, api.OK},
		{"Sub", third, half, api.Frac{Num: -1, Den: 6}, api.OK},
		{"Mul", half, api.Frac{Num: -2, Den: 3}, api.Frac{Num: -1, Den: 3}, api.OK},
		{"Div", half, api.Frac{Num: -2, Den: 3}, api.Frac{Num: -3, Den: 4}, api.OK},
		{"Add", half, half, one, api.OK},
		{"Sub", half, half, zero, api.OK},
		{"Sub", zero, half, api.Frac{Num: -1, Den: 2}, api.OK},
		{"Mul", zero, large, zero, api.OK},
		{"Div", zero, tiny, zero, api.OK},
		{"Add", large, one, api.Frac{}, api.ErrRange},
		{"Sub", api.Frac{Num: -most, Den: 1}, one, api.Frac{}, api.ErrRange},
		{"Sub", large, large, zero, api.OK},
		{"Sub", large, one, api.Frac{Num: most - 1, Den: 1}, api.OK},
		// The products that these sums consist of are far out of range.
		{"Add", api.Frac{Num: most - 1, Den: most}, tiny, one, api.OK},
		{"Sub", api.Frac{Num: most - 1, Den: most}, api.Frac{Num: most - 3, Den: most}, api.Frac{Num: 1, Den: most / 2}, api.OK},
		{"Add", tiny, tiny, api.Frac{Num: 1, Den: most / 2}, api.OK},
		{"Add", tiny, third, api.Frac{}, api.ErrRange},
		{"Add", large, half, api.Frac{}, api.ErrRange},
		{"Mul", large, tiny, one, api.OK},
		{"Mul", large, large, api.Frac{}, api.ErrRange},
		{"Mul", tiny, tiny, api.Frac{}, api.ErrRange},
		{"Mul", api.Frac{Num: most, Den: 3}, api.Frac{Num: 3, Den: most / 2}, api.Frac{Num: 2, Den: 1}, api.OK},
		{"Div", large, large, one, api.OK},
		{"Div", large, half, api.Frac{}, api.ErrRange},
		{"Div", tiny, api.Frac{Num: 2, Den: 1}, api.Frac{}, api.ErrRange},
		{"Div", one, api.Frac{Num: -most, Den: 1}, api.Frac{Num: -1, Den: most}, api.OK},
		{"Div", tiny, api.Frac{Num: -1, Den: most}, api.Frac{Num: -1, Den: 1}, api.OK},
		{"Div", api.Frac{Num: -3, Den: 4}, zero, api.Frac{}, api.ErrZero},
		{"Div", zero, zero, api.Frac{}, api.ErrZero},
		// An argument that is not valid is reported before anything else.
		{"Div", bad, zero, api.Frac{}, api.ErrArg},
		{"Div", half, api.Frac{Num: 0, Den: 2}, api.Frac{}, api.ErrArg},
		{"Add", large, api.Frac{Num: 2, Den: 2}, api.Frac{}, api.ErrArg},
		{"Mul", api.Frac{Num: 2 * most / 2, Den: most}, large, api.Frac{}, api.ErrArg},
	} {
		for _, o := range operations {
			if o.name != c.name {
				continue
			}
			if got, err := o.of(c.a, c.b); got != c.want || err != c.err {
				t.Errorf("%s(%v, %v) is %v, %d, want %v, %d", c.name, c.a, c.b, got, err, c.want, c.err)
			}
		}
	}
}

// P3.3, P3.4: an argument that is not valid.
func TestOperationsInvalid(t *testing.T) {
	good := []api.Frac{{Num: 0, Den: 1}, {Num: 1, Den: 2}, {Num: most, Den: 1}}
	for _, a := range edgeFracs() {
		if isValid(a) {
			continue
		}
		for _, o := range operations {
			for _, b := range append(good, a, api.Frac{}) {
				if got, err := o.of(a, b); got != (api.Frac{}) || err != api.ErrArg {
					t.Errorf("%s(%v, %v) is %v, %d", o.name, a, b, got, err)
				}
				if got, err := o.of(b, a); got != (api.Frac{}) || err != api.ErrArg {
					t.Errorf("%s(%v, %v) is %v, %d", o.name, b, a, got, err)
				}
			}
		}
	}
}

// P3.3, P3.4: all pairs of valid edges.
func TestOperationsOnEdges(t *testing.T) {
	list := validEdges()
	for _, a := range list {
		for _, b := range list {
			for _, o := range operations {
				o.check(t, a, b)
			}
		}
	}
}

// P3.3, P3.4: all small fractions, and random ones.
func TestOperations(t *testing.T) {
	var list []api.Frac
	for num := -9; num <= 9; num++ {
		for den := 1; den <= 12; den++ {
			if a := (api.Frac{Num: num, Den: den}); isValid(a) {
				list = append(list, a)
			}
		}
	}
	for _, a := range list {
		for _, b := range list {
			for _, o := range operations {
				o.check(t, a, b)
			}
		}
	}
	r := rand.New(rand.NewSource(2))
	for range 30000 {
		a, b := random(r), random(r)
		for _, o := range operations {
			o.check(t, a, b)
			o.check(t, a, a)
		}
	}
}

// P3.3: random sums that are in range although their products are not; undoing a result that is known leads to them.
func TestSumsOfLargeProducts(t *testing.T) {
	r := rand.New(rand.NewSource(3))
	inRange := 0
	for range 30000 {
		a, sum := random(r), random(r)
		difference, err := expected(new(big.Rat).Sub(exact(sum), exact(a)))
		if err != api.OK {
			continue
		}
		inRange++
		if got, err := frac.Add(a, difference); got != sum || err != api.OK {
			t.Errorf("Add(%v, %v) is %v, %d, want %v", a, difference, got, err, sum)
		}
		if got, err := frac.Sub(sum, a); got != difference || err != api.OK {
			t.Errorf("Sub(%v, %v) is %v, %d, want %v", sum, a, got, err, difference)
		}
	}
	if inRange < 3000 {
		t.Errorf("only %d sums are in range", inRange)
	}
}

// P3.5: all pairs of edges, valid or not, and random ones.
func TestCompare(t *testing.T) {
	list := append(validEdges(), api.Frac{}, api.Frac{Num: 2, Den: 4}, api.Frac{Num: 1, Den: -1},
		api.Frac{Num: math.MinInt, Den: 1}, api.Frac{Num: most + 1, Den: 1}, api.Frac{Num: 1, Den: most + 1})
	for _, a := range list {
		for _, b := range list {
			checkCompare(t, a, b)
		}
	}
	r := rand.New(rand.NewSource(4))
	for range 30000 {
		a := random(r)
		checkCompare(t, a, random(r))
		checkCompare(t, a, a)
		checkCompare(t, small(r), small(r))
	}
}

// checkCompare checks Compare against math/big.
func checkCompare(t *testing.T, a, b api.Frac) {
	t.Helper()
	want := 0
	if isValid(a) && isValid(b) {
		want = exact(a).Cmp(exact(b))
	}
	if got := frac.Compare(a, b); got != want {
		t.Errorf("Compare(%v, %v) is %d, want %d", a, b, got, want)
	}
}

// P3.6, P3.9: texts written out by hand.
func TestTextKnown(t *testing.T) {
	for _, c := range []struct {
		a    api.Frac
		text string
	}{
		{api.Frac{Num: 0, Den: 1}, "0"},
		{api.Frac{Num: 7, Den: 1}, "7"},
		{api.Frac{Num: -7, Den: 1}, "-7"},
		{api.Frac{Num: 10, Den: 3}, "10/3"},
		{api.Frac{Num: -3, Den: 4}, "-3/4"},
		{api.Frac{Num: 1, Den: 10}, "1/10"},
		{api.Frac{Num: most, Den: 1}, "4611686018427387904"},
		{api.Frac{Num: -most, Den: 1}, "-4611686018427387904"},
		{api.Frac{Num: -1, Den: most}, "-1/4611686018427387904"},
	} {
		if got := frac.Text(c.a); got != c.text {
			t.Errorf("the text of %v is %q, want %q", c.a, got, c.text)
		}
		if got, err := frac.Parse(c.text); got != c.a || err != api.OK {
			t.Errorf("Parse(%q) is %v, %d, want %v", c.text, got, err, c.a)
		}
	}
}

// P3.6: a fraction that is not valid has no text.
func TestTextInvalid(t *testing.T) {
	for _, a := range edgeFracs() {
		if got := frac.Text(a); (got != "") != isValid(a) {
			t.Errorf("the text of %v is %q", a, got)
		}
	}
}

// P3.6: strings that are no text of a fraction.
func TestParseRefused(t *testing.T) {
	for _, s := range []string{"", "/", "-", "-/", "1/", "/1", "/2", "1/2/", "1/2/3", "1//2", "a", "1/a", "a/2", "0x1", "1_0", "1e3",
		"2/4", "5/1", "0/1", "0/2", "-0", "-0/1", "00", "01", "-01", "01/2", "1/02", "+1", "+1/2", "1/+2", "1/-2", "-1/-2", "1/0", "0/0", "1/00",
		" 1", "1 ", "1 /2", "1/ 2", "1.5", "1,5", "--1", "1-", "１", "1/２", "\x00", "1\x00", "\xff", "½",
		"4611686018427387905", "-4611686018427387905", "1/4611686018427387905", "9223372036854775807", "-9223372036854775808",
		"1/9223372036854775807", "18446744073709551617", "1/18446744073709551617", "4611686018427387904/2", "99999999999999999999999/3"} {
		if got, err := frac.Parse(s); got != (api.Frac{}) || err != api.ErrForm {
			t.Errorf("Parse(%q) is %v, %d", s, got, err)
		}
	}
}

// P3.6: of all short strings of the bytes that texts consist of, those and only those are accepted that are a text.
func TestParseShort(t *testing.T) {
	texts := map[string]api.Frac{}
	for num := -999; num <= 9999; num++ {
		for den := 1; den <= 99; den++ {
			if a := (api.Frac{Num: num, Den: den}); isValid(a) {
				s := strconv.Itoa(num)
				if den != 1 {
					s += "/" + strconv.Itoa(den)
				}
				texts[s] = a
			}
		}
	}
	const bytes = "-/0124+"
	strings := []string{""}
	for start := 0; start < len(strings); start++ {
		s := strings[start]
		want, ok := texts[s]
		if got, err := frac.Parse(s); got != want || (err == api.OK) != ok || !ok && err != api.ErrForm {
			t.Errorf("Parse(%q) is %v, %d, want %v, %t", s, got, err, want, ok)
		}
		if len(s) < 4 {
			for _, c := range []byte(bytes) {
				strings = append(strings, s+string(c))
			}
		}
	}
}

// P3.6, P3.9: a fraction is determined by its text, and by its numbers as written by package wire.
func TestDetermined(t *testing.T) {
	r := rand.New(rand.NewSource(5))
	list := validEdges()
	for range 3000 {
		list = append(list, random(r), small(r))
	}
	texts, encodings := map[string]api.Frac{}, map[string]api.Frac{}
	for _, a := range list {
		text := frac.Text(a)
		if got, err := frac.Parse(text); got != a || err != api.OK {
			t.Errorf("%v has the text %q, which is parsed as %v, %d", a, text, got, err)
		}
		var w wire.Writer
		w.Int(a.Num)
		w.Int(a.Den)
		b := string(w.Done())
		if old, ok := texts[text]; ok && old != a {
			t.Errorf("%v and %v have the text %q", old, a, text)
		}
		if old, ok := encodings[b]; ok && old != a {
			t.Errorf("%v and %v are both encoded as %v", old, a, []byte(b))
		}
		texts[text], encodings[b] = a, a
		reader := wire.Read([]byte(b))
		if got := (api.Frac{Num: reader.Int(), Den: reader.Int()}); got != a || reader.End() != api.OK {
			t.Errorf("%v is read back as %v, %d", a, got, reader.End())
		}
	}
}

// P3.9: the hashes of different fractions with equal denominators differ.
func TestHashes(t *testing.T) {
	for _, den := range []int{1, 2, 3, 360, 1 << 40, most} {
		hashes := map[uint64]api.Frac{}
		for num := -2000; num <= 2000; num++ {
			a := api.Frac{Num: num, Den: den}
			if !frac.Valid(a) {
				continue
			}
			h := hash.Sum("frac", a.Num, a.Den)
			if old, ok := hashes[h]; ok {
				t.Errorf("%v and %v have the hash %d", old, a, h)
			}
			hashes[h] = a
		}
	}
}

// result is what an operation returned; known is false if one of the results that led to it is not in range.
type result struct {
	a     api.Frac
	known bool
}

// apply applies an operation to results.
func apply(of func(a, b api.Frac) (api.Frac, api.Errno), a, b result) result {
	if !a.known || !b.known {
		return result{}
	}
	c, err := of(a.a, b.a)
	return result{c, err == api.OK}
}

// checkLaws checks the laws of P3.7 for three fractions, and returns how many of them apply.
func checkLaws(t *testing.T, x, y, z api.Frac) int {
	t.Helper()
	a, b, c := result{x, true}, result{y, true}, result{z, true}
	applied := 0
	for _, law := range []struct {
		name        string
		left, right result
	}{
		{"a + b = b + a", apply(frac.Add, a, b), apply(frac.Add, b, a)},
		{"a * b = b * a", apply(frac.Mul, a, b), apply(frac.Mul, b, a)},
		{"(a + b) + c = a + (b + c)", apply(frac.Add, apply(frac.Add, a, b), c), apply(frac.Add, a, apply(frac.Add, b, c))},
		{"(a * b) * c = a * (b * c)", apply(frac.Mul, apply(frac.Mul, a, b), c), apply(frac.Mul, a, apply(frac.Mul, b, c))},
		{"a * (b + c) = a * b + a * c", apply(frac.Mul, a, apply(frac.Add, b, c)), apply(frac.Add, apply(frac.Mul, a, b), apply(frac.Mul, a, c))},
		{"(a + b) - b = a", apply(frac.Sub, apply(frac.Add, a, b), b), a},
		{"(a * b) / b = a", apply(frac.Div, apply(frac.Mul, a, b), b), a},
	} {
		if !law.left.known || !law.right.known {
			continue
		}
		applied++
		if law.left.a != law.right.a {
			t.Errorf("%s with %v, %v and %v: %v and %v", law.name, x, y, z, law.left.a, law.right.a)
		}
	}
	return applied
}

// P3.7: the laws of arithmetic.
func TestLaws(t *testing.T) {
	r := rand.New(rand.NewSource(6))
	ofSmall, ofLarge := 0, 0
	for range 10000 {
		ofSmall += checkLaws(t, small(r), small(r), small(r))
		ofLarge += checkLaws(t, random(r), random(r), random(r))
	}
	if ofSmall < 65000 || ofLarge < 5000 {
		t.Errorf("the laws apply only %d and %d times", ofSmall, ofLarge)
	}
	for _, a := range validEdges() {
		checkLaws(t, a, api.Frac{Num: 0, Den: 1}, api.Frac{Num: -1, Den: 1})
		checkLaws(t, api.Frac{Num: 1, Den: 1}, a, a)
	}
}

// P3.8: Compare is a total order, and 0 exactly for equal fractions.
func TestTotalOrder(t *testing.T) {
	r := rand.New(rand.NewSource(7))
	list := validEdges()
	for range 10000 {
		a, b, c := list[r.Intn(len(list))], random(r), small(r)
		if r.Intn(2) == 0 {
			a, b = small(r), small(r)
		}
		if frac.Compare(a, b) != -frac.Compare(b, a) || (frac.Compare(a, b) == 0) != (a == b) || frac.Compare(a, a) != 0 {
			t.Errorf("%v and %v are compared as %d and %d", a, b, frac.Compare(a, b), frac.Compare(b, a))
		}
		if frac.Compare(a, b) <= 0 && frac.Compare(b, c) <= 0 && frac.Compare(a, c) > 0 {
			t.Errorf("%v, %v and %v are no chain", a, b, c)
		}
	}
}

// P3.8: adding a fraction, and multiplying by a positive one, keeps the order.
func TestOrderKept(t *testing.T) {
	r := rand.New(rand.NewSource(8))
	kept := 0
	for range 20000 {
		a, b, c := result{small(r), true}, result{small(r), true}, result{small(r), true}
		if r.Intn(3) == 0 {
			a, b, c = result{random(r), true}, result{random(r), true}, result{random(r), true}
		}
		want := frac.Compare(a.a, b.a)
		if x, y := apply(frac.Add, a, c), apply(frac.Add, b, c); x.known && y.known {
			kept++
			if got := frac.Compare(x.a, y.a); got != want {
				t.Errorf("adding %v to %v and %v leads from %d to %d", c.a, a.a, b.a, want, got)
			}
		}
		if x, y := apply(frac.Mul, a, c), apply(frac.Mul, b, c); x.known && y.known && c.a.Num > 0 {
			kept++
			if got := frac.Compare(x.a, y.a); got != want {
				t.Errorf("multiplying %v and %v by %v leads from %d to %d", a.a, b.a, c.a, want, got)
			}
		}
	}
	if kept < 15000 {
		t.Errorf("only %d results are in range", kept)
	}
}

// P3.8: the fraction of the sums lies strictly between two different fractions.
func TestBetween(t *testing.T) {
	r := rand.New(rand.NewSource(9))
	checked := 0
	for range 20000 {
		a, b := small(r), small(r)
		if r.Intn(2) == 0 {
			a, b = random(r), random(r)
		}
		if frac.Compare(a, b) > 0 {
			a, b = b, a
		}
		if a == b || a.Den > most/2 || b.Den > most/2 || max(a.Num, -a.Num, b.Num, -b.Num) > most/2 {
			continue
		}
		checked++
		if m, err := frac.New(a.Num+b.Num, a.Den+b.Den); err != api.OK || frac.Compare(a, m) != -1 || frac.Compare(m, b) != -1 {
			t.Errorf("between %v and %v: %v, %d", a, b, m, err)
		}
	}
	if checked < 10000 {
		t.Errorf("only %d pairs were checked", checked)
	}
}
