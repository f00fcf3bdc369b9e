package parser_test

import (
	"math"
	"math/rand"
	"reflect"
	"slices"
	"strings"
	"testing"

	"intervalmon/api"
	"intervalmon/frac"
	"intervalmon/labels"
	"intervalmon/parser"
)

// kinds describes the nodes of the four kinds: the numbers of functions and Kids, and the fields they use.
var kinds = []struct {
	functions, kids int
	uses            []string
}{
	{1, 0, []string{"Num"}},
	{8, 0, []string{"Window", "Offset", "K", "Name", "Matchers"}},
	{5, 1, []string{"K", "By"}},
	{4, 2, nil},
}

// expectedOf returns the error of a node by the words of P7.2.
func expectedOf(e api.Expr) api.Errno {
	if e.Kind < 0 || e.Kind > 3 || e.Fun < 0 || e.Fun >= kinds[e.Kind].functions || len(e.Kids) != kinds[e.Kind].kids {
		return api.ErrArg
	}
	node := reflect.ValueOf(e)
	for i := range node.NumField() {
		field, name := node.Field(i), node.Type().Field(i).Name
		isEmpty := field.IsZero() || field.Kind() == reflect.Slice && field.Len() == 0
		if !isEmpty && !slices.Contains(append([]string{"Kind", "Fun", "Kids"}, kinds[e.Kind].uses...), name) {
			return api.ErrArg
		}
	}
	if e.Kind == api.ExNum && !frac.Valid(e.Num) {
		return api.ErrArg
	}
	return expectedUsed(e)
}

// expectedUsed returns the error of the fields that a node uses.
func expectedUsed(e api.Expr) api.Errno {
	isSelection, isGroup := e.Kind == api.ExSelect, e.Kind == api.ExGroup
	badMatcher := func(m api.Matcher) bool { return !labels.ValidMatcher(m) }
	badName := func(name string) bool { return !labels.Name(name) }
	notLess := func(i int) bool { return e.By[i] >= e.By[i+1] }
	pairs := []int{}
	for i := 1; i < len(e.By); i++ {
		pairs = append(pairs, i-1)
	}
	isOutside := func(n, lo, hi int) bool { return n < lo || n > hi }
	switch {
	case isSelection && badName(e.Name),
		isSelection && slices.Contains(aggregates, e.Name),
		isSelection && slices.ContainsFunc(e.Matchers, badMatcher),
		isGroup && slices.ContainsFunc(e.By, badName),
		isGroup && slices.ContainsFunc(pairs, notLess):
		return api.ErrName
	case len(e.Matchers) > 8, len(e.By) > 8:
		return api.ErrLimit
	case isSelection && isOutside(e.Offset, 0, 4096),
		isSelection && e.Fun == api.FunLast && e.Window != 0,
		isSelection && e.Fun != api.FunLast && isOutside(e.Window, 1, 4096),
		isSelection && e.Fun == api.FunKth && isOutside(e.K, 1, e.Window),
		isSelection && e.Fun != api.FunKth && e.K != 0,
		isGroup && e.Fun == api.GrpKth && isOutside(e.K, 1, 4096),
		isGroup && e.Fun != api.GrpKth && e.K != 0:
		return api.ErrRange
	}
	return api.OK
}

// expectedValid returns the error of a tree by the words of P7.2.
func expectedValid(e api.Expr) api.Errno {
	if levels(e) > 12 || size(e) > 200 {
		return api.ErrLimit
	}
	return expectedInside(e)
}

// expectedInside returns the first error of the nodes of a tree.
func expectedInside(e api.Expr) api.Errno {
	err := expectedOf(e)
	for _, kid := range e.Kids {
		if err == api.OK {
			err = expectedInside(kid)
		}
	}
	return err
}

// checkValid compares Valid and Print with the words of the chapter, and returns the error.
func checkValid(t *testing.T, e api.Expr) api.Errno {
	t.Helper()
	err, want := parser.Valid(e), expectedValid(e)
	if err != want {
		t.Fatalf("Valid(%s) is %d, want %d", show(e), err, want)
	}
	if s, printErr := parser.Print(e); err != api.OK && (s != "" || printErr != err) {
		t.Fatalf("Print(%s) is %q, %d, want the error %d", show(e), s, printErr, err)
	}
	return err
}

// nineMatchers are one matcher more than a selection can have.
var nineMatchers = slices.Repeat([]api.Matcher{{Name: "a"}}, 9)

// nineNames are one name more than a by clause can have.
var nineNames = []string{"a", "b", "c", "d", "e", "f", "g", "h", "i"}

// changes set the fields of a node to values inside and outside their ranges.
func changes() []func(e *api.Expr) {
	var all []func(e *api.Expr)
	for _, n := range []int{math.MinInt, -1, 0, 1, 2, 3, 4, 5, 6, 7, 8, 9, 100, 4095, 4096, 4097, 1 << 32, math.MaxInt} {
		all = append(all,
			func(e *api.Expr) { e.Kind = n }, func(e *api.Expr) { e.Fun = n }, func(e *api.Expr) { e.Window = n },
			func(e *api.Expr) { e.Offset = n }, func(e *api.Expr) { e.K = n })
	}
	for _, a := range []api.Frac{{}, {Num: 0, Den: 1}, {Num: 1, Den: 1}, {Num: 1}, {Den: 2}, {Num: 2, Den: 4}, {Num: -1, Den: 2}, {Num: 1, Den: -2}, {Num: 1 << 62, Den: 1}, {Num: 1<<62 + 1, Den: 1}} {
		all = append(all, func(e *api.Expr) { e.Num = a })
	}
	for _, name := range []string{"", "a", "z_9", "sum", "min", "max", "count", "kth", "by", "last", "rate", "summ", "su", "A", "_a", "9", "é", "a b", "abcdefghijklmnop", "abcdefghijklmnopq"} {
		all = append(all,
			func(e *api.Expr) { e.Name = name },
			func(e *api.Expr) { e.By = []string{name} },
			func(e *api.Expr) { e.By = []string{"a", name} },
			func(e *api.Expr) { e.By = append([]string{name}, nineNames...) },
			func(e *api.Expr) { e.Matchers = []api.Matcher{{Name: name}} })
	}
	for _, by := range [][]string{{}, {"a", "b"}, {"b", "a"}, {"a", "a"}, {"a", "c", "b"}, {"a", "c", "ab"}, {"a", "aa", "b"}, nineNames[:8], nineNames, {"a", "b", "c", "d", "e", "f", "g", "h", "h"}, {"A", "B"}, {"sum", "tum"}} {
		all = append(all, func(e *api.Expr) { e.By = by })
	}
	for _, m := range []api.Matcher{{Name: "a", Kind: -1}, {Name: "a", Kind: 3}, {Name: "a", Kind: 2, Value: "x"}, {Name: "a", Value: ","}, {Name: "a", Value: "12345678901234567"}} {
		all = append(all,
			func(e *api.Expr) { e.Matchers = []api.Matcher{m} },
			func(e *api.Expr) { e.Matchers = []api.Matcher{{Name: "b"}, m} },
			func(e *api.Expr) { e.Matchers = append(slices.Clone(nineMatchers), m) })
	}
	for _, m := range [][]api.Matcher{{}, nineMatchers[:8], nineMatchers, slices.Repeat(nineMatchers, 100)} {
		all = append(all, func(e *api.Expr) { e.Matchers = m })
	}
	for _, kids := range [][]api.Expr{{}, {series("a")}, {series("a"), number(1, 1)}, {series("a"), number(1, 1), series("b")}, {{}}, {series("a"), {}}, {series("A"), {}}} {
		all = append(all, func(e *api.Expr) { e.Kids = kids })
	}
	return all
}

// nodes returns a valid tree for each kind and function.
func nodes() []api.Expr {
	all := []api.Expr{number(0, 1), number(-1, 2), series("a")}
	for fun := range kinds[api.ExSelect].functions {
		all = append(all, windowed("a", fun, min(fun, 1)*5, fun/7*3, 2))
	}
	for fun := range kinds[api.ExGroup].functions {
		all = append(all, group(fun, fun/4*3, series("a"), "x", "y"))
	}
	for fun := range kinds[api.ExBinary].functions {
		all = append(all, operation(fun, series("a"), number(1, 1)))
	}
	return append(all, matching("a", nineMatchers[:8]...), group(api.GrpSum, 0, number(1, 1)))
}

// P7.2: nodes of every kind and function of which one or two fields are changed.
func TestValidNodes(t *testing.T) {
	counts := map[api.Errno]int{}
	all := changes()
	for _, node := range nodes() {
		if err := checkValid(t, node); err != api.OK {
			t.Errorf("%s has the error %d", show(node), err)
		}
		for i, first := range all {
			one := node
			first(&one)
			counts[checkValid(t, one)]++
			for _, second := range all[i+1:] {
				two := one
				second(&two)
				counts[checkValid(t, two)]++
			}
		}
	}
	for _, err := range []api.Errno{api.OK, api.ErrArg, api.ErrName, api.ErrLimit, api.ErrRange} {
		if counts[err] < 1000 {
			t.Errorf("the numbers of nodes by errors are %v", counts)
		}
	}
}

// P7.2: errors worked out by hand.
func TestValidKnown(t *testing.T) {
	bad := api.Expr{Kind: 4}
	for i, k := range []struct {
		e    api.Expr
		want api.Errno
	}{
		{api.Expr{}, api.ErrArg},
		{number(0, 1), api.OK},
		{number(2, 4), api.ErrArg},
		{number(1<<62, 1), api.OK},
		{api.Expr{Kind: api.ExNum, Fun: 1, Num: api.Frac{Num: 1, Den: 1}}, api.ErrArg},
		{api.Expr{Kind: api.ExNum, Num: api.Frac{Num: 1, Den: 1}, Kids: []api.Expr{number(1, 1)}}, api.ErrArg},
		{api.Expr{Kind: api.ExSelect, Name: "a", Num: api.Frac{Num: 0, Den: 1}}, api.ErrArg},
		{api.Expr{Kind: api.ExSelect, Name: "a", By: []string{}, Kids: []api.Expr{}, Matchers: []api.Matcher{}}, api.OK},
		{api.Expr{Kind: api.ExSelect, Name: "a", By: []string{"a"}}, api.ErrArg},
		{series(""), api.ErrName},
		{series("kth"), api.ErrName},
		{series("last"), api.OK},
		{windowed("a", api.FunLast, 1, 0, 0), api.ErrRange},
		{windowed("a", api.FunMin, 0, 0, 0), api.ErrRange},
		{windowed("a", api.FunKth, 4096, 4096, 4096), api.OK},
		{windowed("a", api.FunKth, 3, 4, 0), api.ErrRange},
		{windowed("a", api.FunRate, 3, 1, 0), api.ErrRange},
		{windowed("a", api.FunLast, 0, 0, -1), api.ErrRange},
		{windowed("a", 8, 1, 0, 0), api.ErrArg},
		{group(api.GrpKth, 4096, number(1, 1)), api.OK},
		{group(api.GrpKth, 4097, number(1, 1)), api.ErrRange},
		{group(api.GrpKth, 0, number(1, 1)), api.ErrRange},
		{group(api.GrpSum, 1, number(1, 1)), api.ErrRange},
		{group(5, 0, number(1, 1)), api.ErrArg},
		{group(api.GrpSum, 0, series("a"), "kth", "sum"), api.OK},
		{operation(4, number(1, 1), number(1, 1)), api.ErrArg},
		// The errors of a node in their order.
		{api.Expr{Kind: api.ExSelect, Name: "sum", Offset: -1, Matchers: nineMatchers, Num: api.Frac{Num: 1, Den: 1}}, api.ErrArg},
		{api.Expr{Kind: api.ExSelect, Name: "sum", Offset: -1, Matchers: nineMatchers}, api.ErrName},
		{api.Expr{Kind: api.ExSelect, Name: "a", Offset: -1, Matchers: nineMatchers}, api.ErrLimit},
		{api.Expr{Kind: api.ExSelect, Name: "a", Offset: -1, Matchers: nineMatchers[:8]}, api.ErrRange},
		{group(api.GrpSum, 1, series("a"), "a", "b", "c", "d", "e", "f", "g", "h", "i", "i"), api.ErrName},
		{group(api.GrpSum, 1, series("a"), nineNames...), api.ErrLimit},
		// A node comes before its Kids, and the Kids in their order.
		{operation(4, series("sum"), number(1, 1)), api.ErrArg},
		{group(api.GrpSum, 1, bad), api.ErrRange},
		{operation(0, bad, series("sum")), api.ErrArg},
		{operation(0, series("sum"), bad), api.ErrName},
		{operation(0, operation(0, number(1, 1), series("sum")), bad), api.ErrName},
		{operation(0, group(api.GrpSum, 0, group(api.GrpSum, 1, bad)), series("")), api.ErrRange},
		{api.Expr{Kind: api.ExSelect, Name: "a", Kids: []api.Expr{series("sum")}}, api.ErrArg},
		// The limits of the tree come before all other errors.
		{chain(api.OpAdd, 12, number(1, 1)), api.OK},
		{chain(api.OpAdd, 13, number(1, 1)), api.ErrLimit},
		{chain(9, 13, bad), api.ErrLimit},
		{api.Expr{Kind: 9, Kids: slices.Repeat([]api.Expr{bad}, 199)}, api.ErrArg},
		{api.Expr{Kind: 9, Kids: slices.Repeat([]api.Expr{bad}, 200)}, api.ErrLimit},
		{sized(200), api.OK},
		{sized(201), api.ErrLimit},
	} {
		if err := parser.Valid(k.e); err != k.want {
			t.Errorf("case %d: Valid(%s) is %d, want %d", i, show(k.e), err, k.want)
		}
		checkValid(t, k.e)
	}
}

// P7.2: trees with two wrong nodes at random places.
func TestValidTrees(t *testing.T) {
	r := rand.New(rand.NewSource(5))
	counts := map[api.Errno]int{}
	all := changes()
	for range 10000 {
		e := randomTree(r, 1+r.Intn(6), true)
		for range r.Intn(3) {
			e = changed(e, r.Intn(size(e)), all[r.Intn(len(all))])
		}
		before := show(e)
		counts[checkValid(t, e)]++
		if show(e) != before {
			t.Fatalf("%s became %s", before, show(e))
		}
	}
	for _, err := range []api.Errno{api.OK, api.ErrArg, api.ErrName, api.ErrLimit, api.ErrRange} {
		if counts[err] < 10 {
			t.Errorf("the numbers of trees by errors are %v", counts)
		}
	}
}

// changed returns a tree of which one node, counted from 0 with each node before its Kids, is changed.
func changed(e api.Expr, n int, change func(*api.Expr)) api.Expr {
	if n == 0 {
		change(&e)
		return e
	}
	n--
	e.Kids = slices.Clone(e.Kids)
	for i, kid := range e.Kids {
		if n >= 0 && n < size(kid) {
			e.Kids[i] = changed(kid, n, change)
		}
		n -= size(kid)
	}
	return e
}

// P7.2: Valid and Print end soon for trees that are so large that their nodes could not be visited.
func TestValidHuge(t *testing.T) {
	deep, wide := series("a"), series("a")
	for range 100 {
		deep = operation(api.OpAdd, deep, deep)
	}
	for range 11 {
		wide = api.Expr{Kind: api.ExBinary, Kids: slices.Repeat([]api.Expr{wide}, 1000)}
	}
	for _, e := range []api.Expr{deep, wide} {
		if err := parser.Valid(e); err != api.ErrLimit {
			t.Errorf("a huge tree has the error %d", err)
		}
		if s, err := parser.Print(e); s != "" || err != api.ErrLimit {
			t.Errorf("a huge tree is printed as %q, %d", s, err)
		}
	}
}

// P7.4: Depth and Nodes of any trees.
func TestDepthNodes(t *testing.T) {
	for _, k := range []struct {
		e            api.Expr
		depth, nodes int
	}{
		{api.Expr{}, 1, 1},
		{api.Expr{Kids: []api.Expr{}}, 1, 1},
		{series("a"), 1, 1},
		{group(api.GrpSum, 0, series("a")), 2, 2},
		{operation(api.OpAdd, group(api.GrpSum, 0, series("a")), series("a")), 3, 4},
		{operation(api.OpAdd, series("a"), group(api.GrpSum, 0, series("a"))), 3, 4},
		{api.Expr{Kind: -1, Kids: []api.Expr{{}, {Kids: []api.Expr{{}, {}, {Kids: []api.Expr{{}}}}}, {}}}, 4, 8},
		{chain(api.OpAdd, 100, series("a")), 100, 199},
		{api.Expr{Kids: make([]api.Expr, 100000)}, 2, 100001},
	} {
		if depth, nodes := parser.Depth(k.e), parser.Nodes(k.e); depth != k.depth || nodes != k.nodes {
			t.Errorf("the tree has the depth %d and %d nodes, want %d and %d", depth, nodes, k.depth, k.nodes)
		}
	}
	r := rand.New(rand.NewSource(6))
	all := changes()
	for range 2000 {
		e := anyTree(r, 1+r.Intn(7), all)
		before := show(e)
		if depth, nodes := parser.Depth(e), parser.Nodes(e); depth != levels(e) || nodes != size(e) {
			t.Fatalf("%s has the depth %d and %d nodes", before, depth, nodes)
		}
		if show(e) != before {
			t.Fatalf("%s became %s", before, show(e))
		}
	}
}

// P7.4, R1: trees with as many levels as the promises allow.
func TestDeep(t *testing.T) {
	deep := func(inner string) api.Expr {
		e := series(inner)
		for range 1<<16 - 1 {
			e = api.Expr{Kind: 7, Kids: []api.Expr{e}}
		}
		return e
	}
	a, b := deep("a"), deep("b")
	if depth, nodes := parser.Depth(a), parser.Nodes(a); depth != 1<<16 || nodes != 1<<16 {
		t.Errorf("a deep tree has the depth %d and %d nodes", depth, nodes)
	}
	if !parser.Equal(a, deep("a")) || parser.Equal(a, b) {
		t.Error("deep trees are compared wrongly")
	}
	if err := parser.Valid(a); err != api.ErrLimit {
		t.Errorf("a deep tree has the error %d", err)
	}
}

// anyTree returns a tree that need not be valid.
func anyTree(r *rand.Rand, depth int, all []func(*api.Expr)) api.Expr {
	e := api.Expr{}
	for range r.Intn(4) {
		all[r.Intn(len(all))](&e)
	}
	e.Kids = nil
	if depth > 1 {
		for range r.Intn(4) {
			e.Kids = append(e.Kids, anyTree(r, depth-1, all))
		}
	}
	return e
}

// P7.4: Equal of trees that differ in one field, at any place.
func TestEqual(t *testing.T) {
	r := rand.New(rand.NewSource(7))
	all := changes()
	same, different := 0, 0
	for range 10000 {
		a := anyTree(r, 1+r.Intn(4), all)
		b := a
		for range r.Intn(2) + r.Intn(2) {
			b = changed(b, r.Intn(size(b)), all[r.Intn(len(all))])
		}
		textA, textB := show(a), show(b)
		want := textA == textB
		if parser.Equal(a, b) != want || parser.Equal(b, a) != want || !parser.Equal(a, a) {
			t.Fatalf("Equal of\n%s and\n%s is %t", textA, textB, !want)
		}
		if show(a) != textA || show(b) != textB {
			t.Fatal("Equal changed a tree")
		}
		if want {
			same++
		} else {
			different++
		}
	}
	if same < 1000 || different < 1000 {
		t.Errorf("only %d pairs are equal and %d are not", same, different)
	}
}

// P7.4: every field decides, also of trees that are equal otherwise.
func TestEqualFields(t *testing.T) {
	full := func() api.Expr {
		return api.Expr{
			Kind: 1, Fun: 2, Window: 3, Offset: 4, K: 5, Num: api.Frac{Num: 6, Den: 7}, Name: "a",
			Matchers: []api.Matcher{{Name: "b", Kind: 1, Value: "c"}, {Name: "d", Kind: 2, Value: "e"}},
			By:       []string{"f", "g"},
			Kids:     []api.Expr{series("h"), group(1, 2, series("i"), "j")},
		}
	}
	for i, change := range []func(e *api.Expr){
		func(e *api.Expr) { e.Kind++ },
		func(e *api.Expr) { e.Fun++ },
		func(e *api.Expr) { e.Window++ },
		func(e *api.Expr) { e.Offset++ },
		func(e *api.Expr) { e.K++ },
		func(e *api.Expr) { e.Num.Num++ },
		func(e *api.Expr) { e.Num.Den++ },
		func(e *api.Expr) { e.Num = api.Frac{Num: 12, Den: 14} },
		func(e *api.Expr) { e.Name = "b" },
		func(e *api.Expr) { e.Name = "" },
		func(e *api.Expr) { e.Matchers[0].Name = "x" },
		func(e *api.Expr) { e.Matchers[1].Kind = 0 },
		func(e *api.Expr) { e.Matchers[1].Value = "" },
		func(e *api.Expr) { e.Matchers = e.Matchers[:1] },
		func(e *api.Expr) { e.Matchers = nil },
		func(e *api.Expr) { e.Matchers = append(e.Matchers, api.Matcher{}) },
		func(e *api.Expr) { slices.Reverse(e.Matchers) },
		func(e *api.Expr) { e.By[0] = "x" },
		func(e *api.Expr) { e.By[1] = "" },
		func(e *api.Expr) { e.By = e.By[:1] },
		func(e *api.Expr) { e.By = nil },
		func(e *api.Expr) { e.By = append(e.By, "") },
		func(e *api.Expr) { slices.Reverse(e.By) },
		func(e *api.Expr) { e.Kids = e.Kids[:1] },
		func(e *api.Expr) { e.Kids = nil },
		func(e *api.Expr) { e.Kids = append(e.Kids, api.Expr{}) },
		func(e *api.Expr) { slices.Reverse(e.Kids) },
		func(e *api.Expr) { e.Kids[0].K++ },
		func(e *api.Expr) { e.Kids[1].By[0] = "x" },
		func(e *api.Expr) { e.Kids[1].Kids[0].Name = "x" },
	} {
		a, b := full(), full()
		change(&b)
		if parser.Equal(a, b) || parser.Equal(b, a) {
			t.Errorf("change %d makes no difference", i)
		}
		change(&a)
		if !parser.Equal(a, b) {
			t.Errorf("change %d, done twice, makes a difference", i)
		}
	}
	empty := api.Expr{Matchers: []api.Matcher{}, By: []string{}, Kids: []api.Expr{}}
	if !parser.Equal(api.Expr{}, empty) || !parser.Equal(empty, api.Expr{}) {
		t.Error("nil and empty lists make a difference")
	}
	if a, b := series(strings.Repeat("x", 100)), series(strings.Repeat("x", 100)); !parser.Equal(a, b) {
		t.Error("equal names make a difference")
	}
}
