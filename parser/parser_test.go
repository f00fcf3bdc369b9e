package parser_test

import (
	"fmt"
	"math/rand"
	"slices"
	"strconv"
	"strings"
	"testing"

	"intervalmon/api"
	"intervalmon/lexer"
	"intervalmon/parser"
)

// check compares the results of Parse with those by the words of the chapter, and returns the error.
func check(t *testing.T, s string) api.Errno {
	t.Helper()
	got, at, err := parser.Parse(s)
	want, wantAt, wantErr := expected(s)
	if at != wantAt || err != wantErr || show(got) != show(want) {
		t.Fatalf("Parse(%q) is\n%s, %d, %d, want\n%s, %d, %d", s, show(got), at, err, show(want), wantAt, wantErr)
	}
	if err == api.OK {
		checkRoundTrip(t, s, got)
	}
	return err
}

// checkRoundTrip checks P7.5 for a query and its tree.
func checkRoundTrip(t *testing.T, s string, e api.Expr) {
	t.Helper()
	if err := parser.Valid(e); err != api.OK {
		t.Fatalf("the tree of %q has the error %d", s, err)
	}
	canonical, err := parser.Print(e)
	if err == api.ErrLimit {
		return
	}
	again, at, againErr := parser.Parse(canonical)
	if err != api.OK || againErr != api.OK || at != 0 || show(again) != show(e) {
		t.Fatalf("%q is printed as %q, %d, which is parsed as %s, %d, %d", s, canonical, err, show(again), at, againErr)
	}
}

// P7.1: trees worked out by hand.
func TestKnown(t *testing.T) {
	a, b, c := series("a"), series("b"), series("c")
	for _, k := range []struct {
		s    string
		want api.Expr
	}{
		{"0", number(0, 1)},
		{"007", number(7, 1)},
		{"1073741824", number(1<<30, 1)},
		{"a", a},
		{" (( a ))\t", a},
		{"a{}", a},
		{"a.last", a},
		{"a@0", a},
		{"a{}.last@0", a},
		{"a@4096", windowed("a", api.FunLast, 0, 0, 4096)},
		{"a.least(1)", windowed("a", api.FunMin, 1, 0, 0)},
		{"a.greatest(2)", windowed("a", api.FunMax, 2, 0, 0)},
		{"a.total(3)", windowed("a", api.FunSum, 3, 0, 0)},
		{"a.mean(4)", windowed("a", api.FunAvg, 4, 0, 0)},
		{"a.increase(5)", windowed("a", api.FunIncrease, 5, 0, 0)},
		{"a.rate(4096)@1", windowed("a", api.FunRate, 4096, 0, 1)},
		{"a.kth(3, 2)@05", windowed("a", api.FunKth, 3, 2, 5)},
		{"a.kth(3,3)", windowed("a", api.FunKth, 3, 3, 0)},
		{"a.kth(4096,4096)", windowed("a", api.FunKth, 4096, 4096, 0)},
		{`a{x="1",y!="2",x^="3",z=""}`, matching("a",
			api.Matcher{Name: "x", Kind: api.MatchEqual, Value: "1"}, api.Matcher{Name: "y", Kind: api.MatchNot, Value: "2"},
			api.Matcher{Name: "x", Kind: api.MatchPrefix, Value: "3"}, api.Matcher{Name: "z"})},
		// Strings that look like symbols and words are neither.
		{`a{x="=",by="sum",sum!="+"}`, matching("a", api.Matcher{Name: "x", Value: "="},
			api.Matcher{Name: "by", Value: "sum"}, api.Matcher{Name: "sum", Kind: api.MatchNot, Value: "+"})},
		// Words that are special only elsewhere.
		{"by", series("by")},
		{"last.last", series("last")},
		{"rate.rate(1)", windowed("rate", api.FunRate, 1, 0, 0)},
		{"sum by(by,kth,sum)(by)", group(api.GrpSum, 0, series("by"), "by", "kth", "sum")},
		{"summer+kthx+maximum", operation(api.OpAdd, operation(api.OpAdd, series("summer"), series("kthx")), series("maximum"))},
		{"sum(a)", group(api.GrpSum, 0, a)},
		{"min by()(a)", group(api.GrpMin, 0, a)},
		{"max by ( x ) ( a )", group(api.GrpMax, 0, a, "x")},
		{"count((a))", group(api.GrpCount, 0, a)},
		{"kth(4096)(a)", group(api.GrpKth, 4096, a)},
		{"kth(1)by(x,x0,x_,xa,y,y1,y2,z)(a)", group(api.GrpKth, 1, a, "x", "x0", "x_", "xa", "y", "y1", "y2", "z")},
		{"sum(1)", group(api.GrpSum, 0, number(1, 1))},
		{"sum(min(max(1)))", group(api.GrpSum, 0, group(api.GrpMin, 0, group(api.GrpMax, 0, number(1, 1))))},
		// Operators of the same precedence associate to the left.
		{"a-b-c", operation(api.OpSub, operation(api.OpSub, a, b), c)},
		{"a-(b-c)", operation(api.OpSub, a, operation(api.OpSub, b, c))},
		{"a/b*c", operation(api.OpMul, operation(api.OpDiv, a, b), c)},
		{"a+b*c", operation(api.OpAdd, a, operation(api.OpMul, b, c))},
		{"(a+b)*c", operation(api.OpMul, operation(api.OpAdd, a, b), c)},
		{"a*b-c", operation(api.OpSub, operation(api.OpMul, a, b), c)},
		{"a-b/c", operation(api.OpSub, a, operation(api.OpDiv, b, c))},
		{"a-(b+c)*2", operation(api.OpSub, a, operation(api.OpMul, operation(api.OpAdd, b, c), number(2, 1)))},
		{"sum(a)-b", operation(api.OpSub, group(api.GrpSum, 0, a), b)},
		{`sum by (zone) (req{code^="5"}.rate(60)) / 2`, operation(api.OpDiv, group(api.GrpSum, 0, api.Expr{
			Kind: api.ExSelect, Name: "req", Fun: api.FunRate, Window: 60,
			Matchers: []api.Matcher{{Name: "code", Kind: api.MatchPrefix, Value: "5"}},
		}, "zone"), number(2, 1))},
	} {
		got, at, err := parser.Parse(k.s)
		if err != api.OK || at != 0 || show(got) != show(k.want) {
			t.Errorf("Parse(%q) is\n%s, %d, %d, want\n%s", k.s, show(got), at, err, show(k.want))
		}
		check(t, k.s)
	}
}

// P7.1: errors worked out by hand.
func TestErrors(t *testing.T) {
	eight := "b1,b2,b3,b4,b5,b6,b7,b8"
	matchers := strings.Repeat(`x="",`, 7) + `x=""`
	for _, k := range []struct {
		s   string
		at  int
		err api.Errno
	}{
		// The errors of the lexer come first, wherever they are.
		{"a b ;", 4, api.ErrForm},
		{`a b "`, 4, api.ErrForm},
		{") 1073741825", 2, api.ErrRange},
		{") abcdefghijklmnopq", 2, api.ErrLimit},
		{strings.Repeat(")", 2001), 2000, api.ErrLimit},
		// No query begins like this.
		{"", 0, api.ErrForm},
		{"  ", 2, api.ErrForm},
		{"sum", 3, api.ErrForm},
		{"sum ", 4, api.ErrForm},
		{"a.kth", 5, api.ErrForm},
		{"a.", 2, api.ErrForm},
		{"a.b", 2, api.ErrForm},
		{"a.sum(1)", 2, api.ErrForm},
		{"a.by", 2, api.ErrForm},
		{"a.kth(", 6, api.ErrForm},
		{"a.kth(3", 7, api.ErrForm},
		{"a.kth(3)", 7, api.ErrForm},
		{"a.kth(3,", 8, api.ErrForm},
		{"a.kth(3,2", 9, api.ErrForm},
		{"a.kth(3,2,1)", 9, api.ErrForm},
		{"a.rate", 6, api.ErrForm},
		{"a.rate()", 7, api.ErrForm},
		{"a.rate(1,1)", 8, api.ErrForm},
		{"a.rate(b)", 7, api.ErrForm},
		{`a.rate("1")`, 7, api.ErrForm},
		{"a.last()", 6, api.ErrForm},
		{"a.last.last", 6, api.ErrForm},
		{"a@", 2, api.ErrForm},
		{"a@b", 2, api.ErrForm},
		{"a@1@1", 3, api.ErrForm},
		{"a@1.last", 3, api.ErrForm},
		{"a@-1", 2, api.ErrForm},
		{"a@(1)", 2, api.ErrForm},
		{"a.last{}", 6, api.ErrForm},
		{"a{}{}", 3, api.ErrForm},
		{"a{", 2, api.ErrForm},
		{"a{x", 3, api.ErrForm},
		{"a{x}", 3, api.ErrForm},
		{"a{x=", 4, api.ErrForm},
		{"a{x=}", 4, api.ErrForm},
		{"a{x=y}", 4, api.ErrForm},
		{"a{x=1}", 4, api.ErrForm},
		{`a{x="1"`, 7, api.ErrForm},
		{`a{x="1",}`, 8, api.ErrForm},
		{`a{,x="1"}`, 2, api.ErrForm},
		{`a{x="1"y="1"}`, 7, api.ErrForm},
		{`a{1="1"}`, 2, api.ErrForm},
		{`a{"x"="1"}`, 2, api.ErrForm},
		{`a{x+"1"}`, 3, api.ErrForm},
		{`a{x"="}`, 3, api.ErrForm},
		{`a{x="1")`, 7, api.ErrForm},
		{"a b", 2, api.ErrForm},
		{"a 1", 2, api.ErrForm},
		{"a(", 1, api.ErrForm},
		{"1 2", 2, api.ErrForm},
		{"1a", 1, api.ErrForm},
		{"1.last", 1, api.ErrForm},
		{"1@1", 1, api.ErrForm},
		{"(a)@1", 3, api.ErrForm},
		{"(a).last", 3, api.ErrForm},
		{"1,2", 1, api.ErrForm},
		{`"a"`, 0, api.ErrForm},
		{`"("a)`, 0, api.ErrForm},
		{`a"+"b`, 1, api.ErrForm},
		{"()", 1, api.ErrForm},
		{"(", 1, api.ErrForm},
		{"(a", 2, api.ErrForm},
		{"(a}", 2, api.ErrForm},
		{"a)", 1, api.ErrForm},
		{"a,", 1, api.ErrForm},
		{"a=", 1, api.ErrForm},
		{"-1", 0, api.ErrForm},
		{"+a", 0, api.ErrForm},
		{"a+", 2, api.ErrForm},
		{"a+)", 2, api.ErrForm},
		{"a+-b", 2, api.ErrForm},
		{"a*/b", 2, api.ErrForm},
		{"a*", 2, api.ErrForm},
		{"a-", 2, api.ErrForm},
		{"a/+b", 2, api.ErrForm},
		{"sum a", 4, api.ErrForm},
		{"sum{}", 3, api.ErrForm},
		{"sum.last", 3, api.ErrForm},
		{"sum@1", 3, api.ErrForm},
		{"sum+1", 3, api.ErrForm},
		{"sum()", 4, api.ErrForm},
		{"sum(a", 5, api.ErrForm},
		{"sum(a,b)", 5, api.ErrForm},
		{"sum(a).last", 6, api.ErrForm},
		{"sum(a)by(x)", 6, api.ErrForm},
		{"sum by(x)", 9, api.ErrForm},
		{"sum by(x)a", 9, api.ErrForm},
		{"sum by", 6, api.ErrForm},
		{"sum by x", 7, api.ErrForm},
		{"sum by{x}", 6, api.ErrForm},
		{"sum by(", 7, api.ErrForm},
		{"sum by(x", 8, api.ErrForm},
		{"sum by(x,)(a)", 9, api.ErrForm},
		{"sum by(,x)(a)", 7, api.ErrForm},
		{"sum by(x y)(a)", 9, api.ErrForm},
		{"sum by(1)(a)", 7, api.ErrForm},
		{`sum by("x")(a)`, 7, api.ErrForm},
		{"sum by(x)by(y)(a)", 9, api.ErrForm},
		{"sum bye(x)(a)", 4, api.ErrForm},
		{`sum "by"(x)(a)`, 4, api.ErrForm},
		{"sum(1)(a)", 6, api.ErrForm},
		{"kth(a)", 4, api.ErrForm},
		{"kth()(a)", 4, api.ErrForm},
		{"kth(1)", 6, api.ErrForm},
		{"kth(1,2)(a)", 5, api.ErrForm},
		{"kth by(x)(a)", 4, api.ErrForm},
		{"kth by(x)(1)(a)", 4, api.ErrForm},
		{"kth", 3, api.ErrForm},
		{"kth.kth(1,1)", 3, api.ErrForm},
		// Numbers out of their ranges.
		{"a.rate(0)", 7, api.ErrRange},
		{"a.rate(4097)", 7, api.ErrRange},
		{"a.least(0", 8, api.ErrRange},
		{"a.kth(0,1)", 6, api.ErrRange},
		{"a.kth(4097,1)", 6, api.ErrRange},
		{"a.kth(3,4)", 8, api.ErrRange},
		{"a.kth(3,0)", 8, api.ErrRange},
		{"a.kth(4096,4097)", 11, api.ErrRange},
		{"kth(0)(a)", 4, api.ErrRange},
		{"kth(4097)(a)", 4, api.ErrRange},
		{"a@4097", 2, api.ErrRange},
		{"a@ 1073741824", 3, api.ErrRange},
		// Lists that are too long or not in order.
		{"sum by(" + eight + ",b9)(a)", 31, api.ErrLimit},
		{"sum by(" + eight + ",b8)(a)", 31, api.ErrLimit},
		{"sum by(" + eight + ",a", 31, api.ErrLimit},
		{"sum by(" + eight + ",", 31, api.ErrForm},
		{"sum by(" + eight + ",)(a)", 31, api.ErrForm},
		{"sum by(" + eight + ",1", 31, api.ErrForm},
		{"a{" + matchers + `,x=""}`, 42, api.ErrLimit},
		{"a{" + matchers + `,x`, 42, api.ErrLimit},
		{"a{" + matchers + `,x+`, 42, api.ErrLimit},
		{"a{" + matchers + `,}`, 42, api.ErrForm},
		{"a{" + matchers + `,"x"`, 42, api.ErrForm},
		{"sum by(x,x)(a)", 9, api.ErrName},
		{"sum by(y,x)(a)", 9, api.ErrName},
		{"sum by(x,xx,x)(a)", 12, api.ErrName},
		{"sum by(a_,a0)(a)", 10, api.ErrName},
		{"sum by(aa,b,ab)(a)", 12, api.ErrName},
		{"kth(1)by(b,a", 11, api.ErrName},
		// The first token with an error.
		{"a@4097 b", 2, api.ErrRange},
		{"a b@4097", 2, api.ErrForm},
		{"sum by(y,x)(a@4097)", 9, api.ErrName},
		{"kth(0)by(y,x)(a)", 4, api.ErrRange},
		{"a@4097+", 2, api.ErrRange},
		{"a.rate(0)@4097", 7, api.ErrRange},
		{"sum by(b,a,)", 9, api.ErrName},
	} {
		got, at, err := parser.Parse(k.s)
		if err != k.err || at != k.at || show(got) != show(api.Expr{}) {
			t.Errorf("Parse(%q) is %s, %d, %d, want %d, %d", k.s, show(got), at, err, k.at, k.err)
		}
		check(t, k.s)
	}
}

// P7.1: the limits of trees come after all other errors, at the end of the source.
func TestTreeLimits(t *testing.T) {
	nested := func(n int, inner string) string {
		return strings.Repeat("sum(", n) + inner + strings.Repeat(")", n)
	}
	balanced := "1"
	for range 6 {
		balanced = "(" + balanced + "+" + balanced + ")" // 127 nodes in 7 levels
	}
	for _, k := range []struct {
		s   string
		at  int
		err api.Errno
	}{
		{strings.Repeat("1+", 11) + "1", 0, api.OK},
		{strings.Repeat("1+", 12) + "1", 25, api.ErrLimit},
		{strings.Repeat("1*", 12) + "1 ", 26, api.ErrLimit},
		{nested(11, "a"), 0, api.OK},
		{nested(12, "a"), 61, api.ErrLimit},
		{nested(10, "a+a"), 0, api.OK},
		{nested(11, "a+a"), 58, api.ErrLimit},
		{nested(11, "a+"), 46, api.ErrForm},
		{strings.Repeat("(", 900) + "a" + strings.Repeat(")", 900), 0, api.OK},
		{strings.Repeat("(", 2000), 2000, api.ErrForm},
		{strings.Repeat("1+", 999) + "1", 1999, api.ErrLimit},
		{strings.Repeat("1+", 1000), 2000, api.ErrForm},
		{balanced, 0, api.OK},
		{nested(5, balanced), 0, api.OK},
		{nested(6, balanced), len(nested(6, balanced)), api.ErrLimit},
	} {
		if got, at, err := parser.Parse(k.s); err != k.err || at != k.at || err != api.OK && show(got) != show(api.Expr{}) {
			t.Errorf("Parse(%q) is %s, %d, %d, want %d, %d", k.s, show(got), at, err, k.at, k.err)
		}
		check(t, k.s)
	}
}

// P7.1: sources with 195 to 205 nodes in at most 12 levels.
func TestNodeLimit(t *testing.T) {
	for n := 195; n <= 205; n++ {
		e := sized(n)
		if size(e) != n || levels(e) > 12 {
			t.Fatalf("a tree has %d nodes in %d levels", size(e), levels(e))
		}
		s := loose(rand.New(rand.NewSource(1)), e, 0)
		got, at, err := parser.Parse(s)
		if n <= 200 && (err != api.OK || at != 0 || show(got) != show(e)) || n > 200 && (err != api.ErrLimit || at != len(s)) {
			t.Errorf("%d nodes: %d, %d", n, at, err)
		}
		check(t, s)
	}
}

// sized returns a tree with a number of nodes in few levels.
func sized(n int) api.Expr {
	switch n {
	case 1:
		return series("a")
	case 2:
		return group(api.GrpSum, 0, series("b"))
	}
	first := (n - 1) / 2
	return operation(n%4, sized(first), sized(n-1-first))
}

// P7.1: all sequences of up to 6 tokens that begin like a query, and each of them with any token behind it.
func TestSequences(t *testing.T) {
	pool := []string{
		"a", "sum", "kth", "by", "last", "rate", "0", "2", "5000", `"x"`,
		"+", "*", "(", ")", "{", "}", ",", ".", "@", "=",
	}
	counts := map[api.Errno]int{}
	var extend func(s string, sequences []string, n int)
	extend = func(s string, sequences []string, n int) {
		for _, piece := range pool {
			longer := strings.TrimLeft(s+" "+piece, " ")
			counts[check(t, longer)]++
			tokens, _, _ := lexer.Tokens(piece)
			if next := after(sequences, tokens[0]); n > 1 && len(next) > 0 {
				extend(longer, next, n-1)
			}
		}
	}
	extend("", expand("query"), 6)
	if counts[api.OK] < 1000 || counts[api.ErrForm] < 10000 || counts[api.ErrRange] < 1000 || counts[api.ErrName] < 10 {
		t.Errorf("the numbers of sources by errors are %v", counts)
	}
}

// P7.1: every token of every pool behind every beginning of some queries that contain all parts of the grammar.
func TestNext(t *testing.T) {
	pool := []string{
		"a", "b9", "sum", "min", "max", "count", "kth", "by", "last", "least", "greatest", "total", "mean", "increase", "rate",
		"0", "1", "2", "3", "4096", "4097", "1073741824", `"x"`, `""`, `"="`, `"("`, `"by"`, `"sum"`,
		"+", "-", "*", "/", "(", ")", "{", "}", ",", ".", "@", "=", "!=", "^=",
	}
	for _, f := range functions {
		pool = append(pool, ". "+f, ". "+f+" ( 2 )", ". "+f+" ( 2 , 1 )", ". "+f+" ( 0", ". "+f+" ( 2 , 3")
	}
	for _, g := range aggregates {
		pool = append(pool, g+" ( a )", g+" ( 1 ) ( a )", g+" by ( a , b ) ( a )", g+" ( 2 ) by ( a ) ( a )", g+" ( 2 ) by ( b , a")
	}
	counts := map[api.Errno]int{}
	for _, s := range []string{
		`a { b = "c" , d != "e" , f ^= "" } . kth ( 3 , 2 ) @ 5`,
		`kth ( 2 ) by ( a , b , c ) ( a . rate ( 3 ) + 2 )`,
		`sum by ( ) ( a { } ) - ( a - 3 * ( b / 4 ) )`,
		`count ( min ( max ( sum ( kth ( 1 ) ( a . last @ 1 ) ) ) ) ) * 2 - 1`,
	} {
		pieces := strings.Split(s, " ")
		for n := range len(pieces) + 1 {
			for _, next := range pool {
				begin := strings.Join(append(slices.Clone(pieces[:n]), next), " ")
				counts[check(t, begin)]++
				counts[check(t, strings.Join(append([]string{begin}, pieces[n:]...), " "))]++
				if n < len(pieces) {
					counts[check(t, strings.Join(append([]string{begin}, pieces[n+1:]...), " "))]++
				}
			}
		}
	}
	if counts[api.OK] < 300 || counts[api.ErrForm] < 3000 || counts[api.ErrRange] < 50 || counts[api.ErrName] < 10 {
		t.Errorf("the numbers of sources by errors are %v", counts)
	}
}

// P7.1, P7.5: random queries with changed tokens.
func TestChanged(t *testing.T) {
	r := rand.New(rand.NewSource(1))
	pool := []string{
		"a", "sum", "kth", "by", "last", "rate", "mean", "0", "1", "4096", "4097", `"x"`,
		"+", "-", "*", "/", "(", ")", "{", "}", ",", ".", "@", "=", "!=", "^=", " ", ";",
	}
	counts := map[api.Errno]int{}
	for range 5000 {
		s := loose(r, randomTree(r, 1+r.Intn(6), false), r.Intn(3))
		counts[check(t, s)]++
		tokens, _, _ := lexer.Tokens(s)
		for range 3 {
			place := tokens[r.Intn(len(tokens))].At
			behind := tokens[r.Intn(len(tokens))].At
			changed := []string{
				s[:place],
				s[:place] + pool[r.Intn(len(pool))] + s[place:],
				s[:place] + " " + pool[r.Intn(len(pool))] + " " + s[behind:],
				s[:place] + s[behind:],
			}
			counts[check(t, changed[r.Intn(len(changed))])]++
		}
	}
	for err, least := range map[api.Errno]int{api.OK: 5000, api.ErrForm: 3000, api.ErrRange: 30, api.ErrLimit: 10, api.ErrName: 10} {
		if counts[err] < least {
			t.Errorf("the numbers of sources by errors are %v", counts)
		}
	}
}

// P7.1: names and matchers around the greatest numbers of them, in all orders.
func TestLists(t *testing.T) {
	r := rand.New(rand.NewSource(3))
	words := []string{"a", "a0", "a_", "aa", "b", "by", "kth", "last", "sum", "z", "zz", "zzzzzzzzzzzzzzzz"}
	counts := map[api.Errno]int{}
	for range 3000 {
		n := r.Intn(11)
		by := make([]string, n)
		conditions := make([]string, n)
		for i := range n {
			by[i] = words[r.Intn(len(words))]
			conditions[i] = by[i] + signs[r.Intn(3)] + strconv.Quote(words[r.Intn(len(words))])
		}
		if r.Intn(2) == 0 {
			slices.Sort(by)
			by = slices.Compact(by)
		}
		sources := []string{
			"sum by(" + strings.Join(by, ",") + ")(a)",
			"kth(2)by(" + strings.Join(by, " , ") + ")(a)",
			"a{" + strings.Join(conditions, ",") + "}",
			"a{" + strings.Join(conditions, " , ") + "}.last",
		}
		for _, s := range sources {
			counts[check(t, s)]++
			counts[check(t, s[:r.Intn(len(s))])]++
		}
	}
	for _, err := range []api.Errno{api.OK, api.ErrForm, api.ErrLimit, api.ErrName} {
		if counts[err] < 300 {
			t.Errorf("the numbers of sources by errors are %v", counts)
		}
	}
}

// P7.1: numbers around the ends of their ranges.
func TestRanges(t *testing.T) {
	numbers := []int{0, 1, 2, 3, 4, 255, 256, 4095, 4096, 4097, 65536, 1<<30 - 1, 1 << 30}
	for _, n := range numbers {
		for _, f := range functions[1:7] {
			check(t, fmt.Sprintf("a.%s(%d)", f, n))
			check(t, fmt.Sprintf("a.%s(%d)@%d", f, n, n))
		}
		check(t, fmt.Sprintf("%d", n))
		check(t, fmt.Sprintf("a@%d", n))
		check(t, fmt.Sprintf("a.last@%d", n))
		check(t, fmt.Sprintf("kth(%d)(a)", n))
		check(t, fmt.Sprintf("kth(%d)by()(%d)", n, n))
		for _, k := range numbers {
			check(t, fmt.Sprintf("a.kth(%d,%d)", n, k))
		}
	}
}

// P7.6: white space between tokens and redundant parentheses do not change the tree.
func TestRedundant(t *testing.T) {
	r := rand.New(rand.NewSource(4))
	for range 5000 {
		e := randomTree(r, 1+r.Intn(5), false)
		for range 4 {
			s := loose(r, e, 3)
			if got, at, err := parser.Parse(s); len(s) <= 2000 && (err != api.OK || at != 0 || show(got) != show(e)) {
				t.Fatalf("Parse(%q) is\n%s, %d, %d, want\n%s", s, show(got), at, err, show(e))
			}
		}
	}
}

// P7.6: white space of every kind before, between and behind the tokens.
func TestWhiteSpace(t *testing.T) {
	const s = `sum by(x,y)(a{b="c",d^=""}.kth(3,2)@5)-(2*b)/c.last`
	want, _, err := parser.Parse(s)
	tokens, _, _ := lexer.Tokens(s)
	if err != api.OK {
		t.Fatalf("%q leads to %d", s, err)
	}
	for _, space := range []string{" ", "\t", "\n", "\r", " \r\n\t "} {
		all := space
		for i, k := range tokens {
			behind := len(s)
			if i+1 < len(tokens) {
				behind = tokens[i+1].At
			}
			piece := s[k.At:behind]
			one := s[:k.At] + space + s[k.At:]
			if got, at, err := parser.Parse(one); err != api.OK || at != 0 || show(got) != show(want) {
				t.Errorf("Parse(%q) is %s, %d, %d", one, show(got), at, err)
			}
			all += piece + space
		}
		if got, at, err := parser.Parse(all); err != api.OK || at != 0 || show(got) != show(want) {
			t.Errorf("Parse(%q) is %s, %d, %d", all, show(got), at, err)
		}
	}
}

// R4, R5: two calls return the same tree in memory of their own.
func TestMemory(t *testing.T) {
	const s = `sum by(x,y)(a{b="c",d^=""}.kth(3,2)@5)-sum by(x,y)(a{b="c",d^=""}.kth(3,2)@5)`
	first, _, _ := parser.Parse(s)
	before := show(first)
	second, _, _ := parser.Parse(s)
	if show(second) != before {
		t.Errorf("the trees are %s, and then %s", before, show(second))
	}
	spoil(second)
	if third, _, _ := parser.Parse(s); show(first) != before || show(third) != before {
		t.Errorf("the trees changed to %s and %s", show(first), show(third))
	}
	// The two operands of one tree share no memory either.
	operand := show(first.Kids[1])
	spoil(first.Kids[0])
	if show(first.Kids[1]) != operand {
		t.Errorf("an operand changed to %s", show(first.Kids[1]))
	}
}

// spoil overwrites all slices of a tree, including the memory behind them.
func spoil(e api.Expr) {
	for _, kid := range e.Kids {
		spoil(kid)
	}
	for i := range e.Kids[:cap(e.Kids)] {
		e.Kids[:cap(e.Kids)][i] = api.Expr{Kind: 7}
	}
	for i := range e.By[:cap(e.By)] {
		e.By[:cap(e.By)][i] = "spoilt"
	}
	for i := range e.Matchers[:cap(e.Matchers)] {
		e.Matchers[:cap(e.Matchers)][i] = api.Matcher{Name: "spoilt"}
	}
}
