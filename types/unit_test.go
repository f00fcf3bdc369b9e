package types_test

import (
	"math"
	"math/rand"
	"slices"
	"strconv"
	"strings"
	"testing"

	"intervalmon/api"
	"intervalmon/types"
)

// unitsFrom returns all units whose exponents are from lo to hi.
func unitsFrom(lo, hi int) []api.Unit {
	var all []api.Unit
	for item := lo; item <= hi; item++ {
		for bytes := lo; bytes <= hi; bytes++ {
			for tick := lo; tick <= hi; tick++ {
				all = append(all, api.Unit{item, bytes, tick})
			}
		}
	}
	return all
}

// edges are exponents at and around the limits of valid units and of integers.
var edges = []int{math.MinInt, math.MinInt + 1, -1 << 32, -7, -4, -3, -2, -1, 0, 1, 2, 3, 4, 7, 1 << 32, math.MaxInt - 1, math.MaxInt}

// randomUnit returns a unit whose exponents are edges or any integers.
func randomUnit(r *rand.Rand) api.Unit {
	var u api.Unit
	for i := range u {
		u[i] = edges[r.Intn(len(edges))]
		if r.Intn(4) == 0 {
			u[i] = int(r.Uint64())
		}
	}
	return u
}

// isUnit reports by the words of the chapter whether u is valid.
func isUnit(u api.Unit) bool {
	for _, n := range u {
		if !slices.Contains([]int{-3, -2, -1, 0, 1, 2, 3}, n) {
			return false
		}
	}
	return true
}

// textOf returns the text of a valid unit by the words of the chapter.
func textOf(u api.Unit) string {
	powers := []string{"", "", "^2", "^3"}
	text := ""
	for i, name := range []string{"item", "byte", "tick"} {
		if u[i] > 0 {
			text += "*" + name + powers[u[i]]
		}
	}
	text = strings.TrimPrefix(text, "*")
	if text == "" {
		text = "1"
	}
	for i, name := range []string{"item", "byte", "tick"} {
		if u[i] < 0 {
			text += "/" + name + powers[-u[i]]
		}
	}
	return text
}

// textsOfUnits returns the valid units by their texts.
func textsOfUnits() map[string]api.Unit {
	all := map[string]api.Unit{}
	for _, u := range unitsFrom(-3, 3) {
		all[textOf(u)] = u
	}
	return all
}

// P8.1: units worked out by hand.
func TestMulDivKnown(t *testing.T) {
	for _, k := range []struct{ a, b, product, quotient api.Unit }{
		{api.Unit{}, api.Unit{}, api.Unit{}, api.Unit{}},
		{api.Unit{1, 0, 0}, api.Unit{0, 0, 1}, api.Unit{1, 0, 1}, api.Unit{1, 0, -1}},
		{api.Unit{1, 2, 3}, api.Unit{3, -1, 3}, api.Unit{4, 1, 6}, api.Unit{-2, 3, 0}},
		{api.Unit{-3, 3, -3}, api.Unit{-3, 3, 3}, api.Unit{-6, 6, 0}, api.Unit{0, 0, -6}},
		{api.Unit{math.MaxInt, math.MinInt, 0}, api.Unit{1, -1, math.MinInt}, api.Unit{math.MinInt, math.MaxInt, math.MinInt}, api.Unit{math.MaxInt - 1, math.MinInt + 1, math.MinInt}},
		{api.Unit{math.MinInt, math.MaxInt, -1}, api.Unit{1, -1, math.MinInt}, api.Unit{math.MinInt + 1, math.MaxInt - 1, math.MaxInt}, api.Unit{math.MaxInt, math.MinInt, math.MaxInt}},
	} {
		if got := types.Mul(k.a, k.b); got != k.product {
			t.Errorf("Mul(%v, %v) is %v", k.a, k.b, got)
		}
		if got := types.Div(k.a, k.b); got != k.quotient {
			t.Errorf("Div(%v, %v) is %v", k.a, k.b, got)
		}
	}
}

// P8.1, P8.5: sums and differences of all pairs of edges at each place, and of random units.
func TestMulDiv(t *testing.T) {
	check := func(a, b api.Unit) {
		t.Helper()
		var sum, difference api.Unit
		for i := range 3 {
			sum[i], difference[i] = int(uint64(a[i])+uint64(b[i])), int(uint64(a[i])-uint64(b[i]))
		}
		if types.Mul(a, b) != sum || types.Div(a, b) != difference {
			t.Fatalf("Mul(%v, %v) is %v, and Div is %v", a, b, types.Mul(a, b), types.Div(a, b))
		}
	}
	for _, x := range edges {
		for _, y := range edges {
			check(api.Unit{x, 0, 0}, api.Unit{y, 0, 0})
			check(api.Unit{0, x, 0}, api.Unit{0, y, 0})
			check(api.Unit{0, 0, x}, api.Unit{0, 0, y})
			check(api.Unit{x, y, x}, api.Unit{y, y, x})
		}
	}
	r := rand.New(rand.NewSource(1))
	for range 20000 {
		check(randomUnit(r), randomUnit(r))
	}
}

// P8.5: the laws, for valid units and for any others.
func TestLaws(t *testing.T) {
	r := rand.New(rand.NewSource(2))
	small := unitsFrom(-3, 3)
	for i := range 20000 {
		a, b, c := randomUnit(r), randomUnit(r), randomUnit(r)
		if i%2 == 0 {
			a, b, c = small[r.Intn(len(small))], small[r.Intn(len(small))], small[r.Intn(len(small))]
		}
		if types.Mul(a, b) != types.Mul(b, a) {
			t.Fatalf("Mul of %v and %v depends on their order", a, b)
		}
		if types.Mul(types.Mul(a, b), c) != types.Mul(a, types.Mul(b, c)) {
			t.Fatalf("Mul of %v, %v and %v depends on the parentheses", a, b, c)
		}
		if types.Mul(a, api.Unit{}) != a || types.Mul(api.Unit{}, a) != a || types.Div(a, api.Unit{}) != a {
			t.Fatalf("the zero unit changes %v", a)
		}
		if types.Div(types.Mul(a, b), b) != a || types.Mul(types.Div(a, b), b) != a || types.Div(a, a) != (api.Unit{}) {
			t.Fatalf("Div of %v and %v does not undo Mul", a, b)
		}
	}
}

// P8.2: texts worked out by hand.
func TestTextKnown(t *testing.T) {
	for _, k := range []struct {
		u    api.Unit
		want string
	}{
		{api.Unit{}, "1"},
		{api.Unit{1, 0, 0}, "item"},
		{api.Unit{0, 1, 0}, "byte"},
		{api.Unit{0, 0, 1}, "tick"},
		{api.Unit{1, 0, -1}, "item/tick"},
		{api.Unit{0, -2, 1}, "tick/byte^2"},
		{api.Unit{1, 1, 1}, "item*byte*tick"},
		{api.Unit{3, 2, 1}, "item^3*byte^2*tick"},
		{api.Unit{-1, -1, -1}, "1/item/byte/tick"},
		{api.Unit{-1, -2, -3}, "1/item/byte^2/tick^3"},
		{api.Unit{-1, 2, 0}, "byte^2/item"},
		{api.Unit{2, -3, 2}, "item^2*tick^2/byte^3"},
		{api.Unit{4, 0, 0}, ""},
		{api.Unit{0, -4, 0}, ""},
		{api.Unit{0, 0, 4}, ""},
		{api.Unit{1, 1, -4}, ""},
		{api.Unit{math.MinInt, 0, 0}, ""},
		{api.Unit{0, math.MaxInt, 0}, ""},
	} {
		if got := types.Text(k.u); got != k.want {
			t.Errorf("Text(%v) is %q, want %q", k.u, got, k.want)
		}
	}
}

// P8.2, P8.6: all valid units, units around them, and random ones.
func TestTextParse(t *testing.T) {
	check := func(u api.Unit) {
		t.Helper()
		text := types.Text(u)
		if !isUnit(u) {
			if text != "" {
				t.Errorf("Text(%v) is %q", u, text)
			}
			return
		}
		if text != textOf(u) {
			t.Errorf("Text(%v) is %q, want %q", u, text, textOf(u))
		}
		if back, err := types.Parse(text); back != u || err != api.OK {
			t.Errorf("Parse(%q) is %v, %d", text, back, err)
		}
	}
	for _, u := range unitsFrom(-6, 6) {
		check(u)
	}
	if n := len(textsOfUnits()); n != 343 {
		t.Errorf("%d units have different texts", n)
	}
	r := rand.New(rand.NewSource(3))
	for range 20000 {
		check(randomUnit(r))
	}
}

// checkParse compares Parse of any string with the texts of all valid units.
func checkParse(t *testing.T, texts map[string]api.Unit, s string) {
	t.Helper()
	want, isText := texts[s]
	u, err := types.Parse(s)
	if u != want || isText != (err == api.OK) || !isText && err != api.ErrForm {
		t.Fatalf("Parse(%q) is %v, %d", s, u, err)
	}
}

// P8.2: strings that are no texts, worked out by hand.
func TestParseKnown(t *testing.T) {
	texts := textsOfUnits()
	for _, s := range []string{
		"", " ", "0", "2", "11", "1*1", "1*item", "item*1", "1/1", "item/1", "/item", "*item", "item*", "item/", "1/", "item//tick", "item**tick",
		"tick*item", "byte*item", "1/tick/item", "item*item", "item^2*item", "item/item", "item^3/item", "1/item/item", "item*byte*tick*item",
		"item^1", "item^0", "item^4", "item^-1", "item^+2", "item^02", "item^2 ", "item^", "item^x", "item^2^2", "item^2.0", "item^ 2", "1^2", "^2", "1/item^1",
		"item^18446744073709551618", "item^9223372036854775807", "item^-9223372036854775808", "item^99999999999999999999999",
		"item^1*item^1", "item^3*item^3", "item^5/item^2", "item^2*item^0",
		"Item", "ITEM", "items", "ite", "bytes", "ticks", "second", "item ", " item", "item *byte", "item/ tick", "item\n", "item\x00", "1item", "item1",
		"item/tick*byte", "1/item*byte", "item/(tick)", "item·tick", "item×tick", "itém", "\xff", "item\xff",
		"item*byte*tick*", "/", "*", "^", "//", "**", "1//", "1*", "/1",
	} {
		if _, isText := texts[s]; isText {
			t.Errorf("%q is a text", s)
		}
		checkParse(t, texts, s)
	}
}

// P8.2: each text with one byte inserted, removed or replaced, and all their beginnings and ends.
func TestParseChanged(t *testing.T) {
	texts := textsOfUnits()
	for text := range texts {
		for i := range len(text) + 1 {
			checkParse(t, texts, text[:i])
			checkParse(t, texts, text[i:])
			for c := range 256 {
				checkParse(t, texts, text[:i]+string([]byte{byte(c)})+text[i:])
				if i < len(text) {
					checkParse(t, texts, text[:i]+string([]byte{byte(c)})+text[i+1:])
				}
			}
			if i < len(text) {
				checkParse(t, texts, text[:i]+text[i+1:])
			}
		}
	}
}

// P8.2: all strings of few parts of texts, and random ones of many.
func TestParseParts(t *testing.T) {
	texts := textsOfUnits()
	parts := []string{"item", "byte", "tick", "*", "/", "^2", "^3", "1", "^", "2", "^1", "0"}
	list := []string{""}
	for range 5 {
		var longer []string
		for _, s := range list {
			for _, part := range parts {
				checkParse(t, texts, s+part)
				longer = append(longer, s+part)
			}
		}
		list = longer
	}
	r := rand.New(rand.NewSource(4))
	factors := []string{"item", "byte", "tick", "1", "item^2", "byte^3", "tick^2", "item^3", ""}
	found := 0
	for range 200000 {
		s := factors[r.Intn(len(factors))]
		for range r.Intn(5) {
			s += []string{"*", "/"}[r.Intn(2)] + factors[r.Intn(len(factors))]
		}
		checkParse(t, texts, s)
		if _, isText := texts[s]; isText {
			found++
		}
	}
	if found < 1000 {
		t.Errorf("only %d random strings are texts", found)
	}
}

// P8.2, R1: long strings, also those whose parts make up a unit.
func TestParseLong(t *testing.T) {
	texts := textsOfUnits()
	for _, part := range []string{"item*", "/item", "*", "/", "^", "1", "1*", "item^2/item^2*", "item^" + strconv.Itoa(math.MaxInt) + "*"} {
		checkParse(t, texts, strings.Repeat(part, 1<<16))
		checkParse(t, texts, strings.Repeat(part, 1<<16)+"item")
	}
}
