package parser_test

import (
	"math/big"
	"math/rand"
	"slices"
	"strings"
	"testing"

	"intervalmon/api"
	"intervalmon/lexer"
	"intervalmon/parser"
)

// P7.3: canonical sources worked out by hand.
func TestPrintKnown(t *testing.T) {
	a, b, c := series("a"), series("b"), series("c")
	const add, sub, mul, div = api.OpAdd, api.OpSub, api.OpMul, api.OpDiv
	for _, k := range []struct {
		e    api.Expr
		want string
	}{
		{number(0, 1), "0"},
		{number(7, 1), "7"},
		{number(1<<30, 1), "1073741824"},
		{number(1, 2), "(1/2)"},
		{number(-1, 2), "(0-1/2)"},
		{number(-3, 1), "(0-3)"},
		{number(1, 1<<30), "(1/1073741824)"},
		{number(-(1 << 30), 1), "(0-1073741824)"},
		{number(-(1 << 30), 1<<30-1), "(0-1073741824/1073741823)"},
		{a, "a"},
		{windowed("a", api.FunLast, 0, 0, 5), "a@5"},
		{windowed("a", api.FunMin, 1, 0, 0), "a.least(1)"},
		{windowed("a", api.FunMax, 2, 0, 0), "a.greatest(2)"},
		{windowed("a", api.FunSum, 3, 0, 0), "a.total(3)"},
		{windowed("a", api.FunAvg, 4, 0, 0), "a.mean(4)"},
		{windowed("a", api.FunIncrease, 5, 0, 0), "a.increase(5)"},
		{windowed("a", api.FunRate, 6, 0, 7), "a.rate(6)@7"},
		{windowed("a", api.FunKth, 4096, 12, 4096), "a.kth(4096,12)@4096"},
		{matching("a", []api.Matcher{}...), "a"},
		{matching("a", api.Matcher{Name: "x", Kind: 1, Value: "="}, api.Matcher{Name: "x"}, api.Matcher{Name: "by", Kind: 2, Value: "5"}),
			`a{x!="=",x="",by^="5"}`},
		{group(api.GrpSum, 0, a), "sum(a)"},
		{group(api.GrpMin, 0, a, "x"), "min by(x)(a)"},
		{group(api.GrpMax, 0, a, "by", "sum"), "max by(by,sum)(a)"},
		{group(api.GrpCount, 0, number(1, 2)), "count((1/2))"},
		{group(api.GrpKth, 10, a), "kth(10)(a)"},
		{group(api.GrpKth, 1, a, "x", "y"), "kth(1)by(x,y)(a)"},
		{group(api.GrpSum, 0, group(api.GrpSum, 0, a, "x")), "sum(sum by(x)(a))"},
		{group(api.GrpSum, 0, operation(add, a, b)), "sum(a+b)"},
		{group(api.GrpSum, 0, operation(mul, a, operation(add, b, c))), "sum(a*(b+c))"},
		{operation(sub, a, operation(mul, operation(add, b, c), number(2, 1))), "a-(b+c)*2"},
		{operation(sub, a, operation(sub, b, c)), "a-(b-c)"},
		{operation(sub, operation(sub, a, b), c), "a-b-c"},
		{operation(add, a, operation(add, b, c)), "a+(b+c)"},
		{operation(add, operation(mul, a, b), c), "a*b+c"},
		{operation(sub, a, operation(div, b, c)), "a-b/c"},
		{operation(div, operation(mul, a, b), c), "a*b/c"},
		{operation(mul, a, operation(mul, b, c)), "a*(b*c)"},
		{operation(mul, a, operation(div, b, c)), "a*(b/c)"},
		{operation(div, operation(sub, a, b), c), "(a-b)/c"},
		{operation(mul, number(1, 2), number(-1, 2)), "(1/2)*(0-1/2)"},
		{operation(sub, number(-1, 1), number(-1, 1)), "(0-1)-(0-1)"},
		{operation(div, group(api.GrpSum, 0, api.Expr{
			Kind: api.ExSelect, Name: "req", Fun: api.FunRate, Window: 60,
			Matchers: []api.Matcher{{Name: "code", Kind: api.MatchPrefix, Value: "5"}},
		}, "zone"), number(2, 1)), `sum by(zone)(req{code^="5"}.rate(60))/2`},
	} {
		if s, err := parser.Print(k.e); s != k.want || err != api.OK {
			t.Errorf("Print(%s) is %q, %d, want %q", show(k.e), s, err, k.want)
		}
	}
}

// P7.3: parsed queries are printed in one form.
func TestPrintParsed(t *testing.T) {
	for s, want := range map[string]string{
		`sum by (zone) (req{code^="5"}.rate(60)) / 2`: `sum by(zone)(req{code^="5"}.rate(60))/2`,
		"a-(b+c)*2":                      "a-(b+c)*2",
		"a-(b-c)":                        "a-(b-c)",
		"(a*b)+(c)":                      "a*b+c",
		"((a-b)-c)":                      "a-b-c",
		" 007 ":                          "7",
		"a{}.last@0":                     "a",
		"sum by()((a))":                  "sum(a)",
		"kth( 02 )by\t(x)(a)":            "kth(2)by(x)(a)",
		"a . kth ( 3 , 02 ) @ 05":        "a.kth(3,2)@5",
		"(1/2)*(0-1)":                    "1/2*(0-1)",
		`a { b = "c" , d != "" } @ 0001`: `a{b="c",d!=""}@1`,
	} {
		e, _, _ := parser.Parse(s)
		if got, err := parser.Print(e); got != want || err != api.OK {
			t.Errorf("%q is printed as %q, %d, want %q", s, got, err, want)
		}
	}
}

// P7.3: an operation is in parentheses exactly if its tree would be another one without them.
func TestPrintParentheses(t *testing.T) {
	a, b, c := series("a"), series("b"), series("c")
	for outer := range operators {
		for inner := range operators {
			for place, e := range []api.Expr{operation(outer, operation(inner, a, b), c), operation(outer, a, operation(inner, b, c))} {
				bare := "a" + operators[inner] + "b" + operators[outer] + "c"
				enclosed := "(a" + operators[inner] + "b)" + operators[outer] + "c"
				if place == 1 {
					bare = "a" + operators[outer] + "b" + operators[inner] + "c"
					enclosed = "a" + operators[outer] + "(b" + operators[inner] + "c)"
				}
				want := enclosed
				if tokens, _, _ := lexer.Tokens(bare); show(treeOf(tokens)) == show(e) {
					want = bare
				}
				if s, err := parser.Print(e); s != want || err != api.OK {
					t.Errorf("Print(%s) is %q, %d, want %q", show(e), s, err, want)
				}
			}
		}
	}
}

// P7.3, P7.5: random trees are printed by the words of the chapter, and those with natural numbers are parsed again.
func TestPrintRandom(t *testing.T) {
	r := rand.New(rand.NewSource(8))
	for i := range 10000 {
		e := randomTree(r, 1+r.Intn(7), i%2 == 0)
		before := show(e)
		s, err := parser.Print(e)
		if want := loose(r, e, 0); s != want || err != api.OK {
			t.Fatalf("Print(%s) is\n%q, %d, want\n%q", show(e), s, err, want)
		}
		again, at, err := parser.Parse(s)
		if i%2 == 1 && (err != api.OK || at != 0 || !parser.Equal(again, e) || show(again) != before) {
			t.Fatalf("Parse(%q) is\n%s, %d, %d, want\n%s", s, show(again), at, err, before)
		}
		if show(e) != before {
			t.Fatalf("%s became %s", before, show(e))
		}
	}
}

// P7.3: no parentheses of a canonical source are redundant, if there are only natural numbers.
func TestPrintShortest(t *testing.T) {
	r := rand.New(rand.NewSource(9))
	pairs := 0
	for range 2000 {
		e := randomTree(r, 1+r.Intn(5), false)
		s, _ := parser.Print(e)
		for open := range s {
			if s[open] != '(' {
				continue
			}
			end := closing(s, open)
			shorter := s[:open] + " " + s[open+1:end] + " " + s[end+1:]
			if got, _, err := parser.Parse(shorter); err == api.OK && show(got) == show(e) {
				t.Fatalf("%q has the tree of %q", shorter, s)
			}
			pairs++
		}
	}
	if pairs < 5000 {
		t.Errorf("only %d pairs of parentheses were removed", pairs)
	}
}

// closing returns the offset of the parenthesis that belongs to the one at an offset. The values of randomSelection contain none.
func closing(s string, open int) int {
	nesting := 0
	for i := open; ; i++ {
		switch s[i] {
		case '(':
			nesting++
		case ')':
			nesting--
		}
		if nesting == 0 {
			return i
		}
	}
}

// P7.3: numbers that a source cannot contain.
func TestPrintRange(t *testing.T) {
	const greatest = 1 << 30
	for _, k := range []struct {
		num, den int
		want     api.Errno
	}{
		{greatest, 1, api.OK},
		{greatest + 1, 1, api.ErrRange},
		{-greatest, 1, api.OK},
		{-greatest - 1, 1, api.ErrRange},
		{greatest, 3, api.OK},
		{greatest + 1, 3, api.ErrRange},
		{-greatest, 3, api.OK},
		{-greatest - 2, 5, api.ErrRange},
		{1, greatest, api.OK},
		{1, greatest + 1, api.ErrRange},
		{-1, greatest, api.OK},
		{-1, greatest + 1, api.ErrRange},
		{0, 1, api.OK},
		{1 << 62, 1, api.ErrRange},
		{-1 << 62, 1, api.ErrRange},
		{1, 1 << 62, api.ErrRange},
		{1<<62 + 1, 1, api.ErrArg},
		{0, greatest + 1, api.ErrArg},
		{2, 4, api.ErrArg},
		{1, 0, api.ErrArg},
	} {
		e := number(k.num, k.den)
		for _, tree := range []api.Expr{
			e, group(api.GrpSum, 0, e), operation(api.OpAdd, series("a"), e), operation(api.OpAdd, e, series("a")),
			operation(api.OpMul, number(1, 2), group(api.GrpSum, 0, operation(api.OpAdd, series("a"), e))),
		} {
			if s, err := parser.Print(tree); err != k.want || err == api.OK && s != loose(rand.New(rand.NewSource(1)), tree, 0) || err != api.OK && s != "" {
				t.Errorf("Print(%s) is %q, %d, want %d", show(tree), s, err, k.want)
			}
		}
	}
	// The errors in their order.
	tooGreat, long := number(greatest+1, 1), sourceOf(2001)
	for i, k := range []struct {
		e    api.Expr
		want api.Errno
	}{
		{operation(api.OpAdd, tooGreat, series("sum")), api.ErrName},
		{operation(api.OpAdd, long, series("sum")), api.ErrName},
		{operation(api.OpAdd, long, tooGreat), api.ErrRange},
		{operation(api.OpAdd, tooGreat, long), api.ErrRange},
		{operation(9, tooGreat, long), api.ErrArg},
		{chain(api.OpAdd, 13, tooGreat), api.ErrLimit},
	} {
		if s, err := parser.Print(k.e); s != "" || err != k.want {
			t.Errorf("case %d is printed as %q, %d, want %d", i, s, err, k.want)
		}
	}
}

// P7.3: sources around the greatest length.
func TestPrintLength(t *testing.T) {
	for n := 1960; n <= 2030; n++ {
		e := sourceOf(n)
		want := loose(rand.New(rand.NewSource(1)), e, 0)
		if len(want) != n {
			t.Fatalf("the source has %d bytes, not %d", len(want), n)
		}
		s, err := parser.Print(e)
		if n <= 2000 && (s != want || err != api.OK) || n > 2000 && (s != "" || err != api.ErrLimit) {
			t.Errorf("a source of %d bytes is printed as %q, %d", n, s, err)
		}
	}
	// The greatest trees that are valid.
	if s, err := parser.Print(group(api.GrpSum, 0, chain(api.OpMul, 11, sourceOf(305)))); s != "" || err != api.ErrLimit {
		t.Errorf("a long source is printed as %q, %d", s, err)
	}
}

// sourceOf returns a tree whose source has a number of bytes from 1953 to 2033, or 305.
func sourceOf(n int) api.Expr {
	const name = "abcdefghijklmnop"
	matcher := api.Matcher{Name: name, Value: "1234567890123456"}
	full := matching(name, slices.Repeat([]api.Matcher{matcher}, 8)...)
	if n == 305 {
		return full
	}
	last := matching(name)
	missing := n - 1836 - 117
	for range 5 {
		size := min(missing, 16)
		missing -= size
		last.Matchers = append(last.Matchers, api.Matcher{Name: name, Value: strings.Repeat("x", size)})
	}
	return operation(api.OpAdd, chain(api.OpAdd, 6, full), last)
}

// P7.7: the sources of fractions, parsed and evaluated exactly.
func TestPrintFractions(t *testing.T) {
	r := rand.New(rand.NewSource(10))
	var all []api.Expr
	for _, num := range []int{0, 1, 2, 3, 1<<30 - 1, 1 << 30} {
		for _, den := range []int{1, 2, 3, 1<<30 - 1, 1 << 30} {
			d := divisor(num, den)
			all = append(all, number(num/d, den/d), number(-num/d, den/d))
		}
	}
	for range 5000 {
		all = append(all, randomNumber(r, true))
	}
	for _, e := range all {
		s, err := parser.Print(e)
		tree, _, parseErr := parser.Parse(s)
		if err != api.OK || parseErr != api.OK {
			t.Fatalf("Print(%s) is %q, %d, which leads to %d", show(e), s, err, parseErr)
		}
		if got, want := exact(tree), big.NewRat(int64(e.Num.Num), int64(e.Num.Den)); got.Cmp(want) != 0 {
			t.Errorf("%q is %s, want %s", s, got, want)
		}
	}
}

// exact returns the value of an expression of natural numbers.
func exact(e api.Expr) *big.Rat {
	if e.Kind == api.ExNum {
		return big.NewRat(int64(e.Num.Num), int64(e.Num.Den))
	}
	a, b, result := exact(e.Kids[0]), exact(e.Kids[1]), new(big.Rat)
	switch e.Fun {
	case api.OpAdd:
		return result.Add(a, b)
	case api.OpSub:
		return result.Sub(a, b)
	case api.OpMul:
		return result.Mul(a, b)
	}
	return result.Quo(a, b)
}
