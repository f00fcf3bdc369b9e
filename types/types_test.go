package types_test

import (
	"fmt"
	"math"
	"math/rand"
	"slices"
	"strings"
	"testing"

	"intervalmon/api"
	"intervalmon/labels"
	"intervalmon/parser"
	"intervalmon/types"
)

// labelled returns labels with the names and values in turn.
func labelled(parts ...string) []api.Label {
	var l []api.Label
	for i := 0; i < len(parts); i += 2 {
		l = append(l, api.Label{Name: parts[i], Value: parts[i+1]})
	}
	return l
}

// series are the declarations that queries worked out by hand are about.
func series() []api.Decl {
	return []api.Decl{
		{Name: "req", Labels: labelled("code", "200", "zone", "a"), Unit: api.Unit{1, 0, 0}},
		{Name: "req", Labels: labelled("code", "500", "zone", "a"), Unit: api.Unit{1, 0, 0}},
		{Name: "size", Labels: labelled("zone", "a"), Unit: api.Unit{0, 1, 0}},
		{Name: "mix", Labels: labelled("kind", "item"), Unit: api.Unit{1, 0, 0}},
		{Name: "mix", Labels: labelled("kind", "item", "new", "1"), Unit: api.Unit{1, 0, 0}},
		{Name: "mix", Labels: labelled("kind", "tick"), Unit: api.Unit{0, 0, 1}},
		{Name: "plain"},
		{Name: "high", Unit: api.Unit{3, 3, 3}},
		{Name: "low", Unit: api.Unit{-3, -3, -3}},
		{Name: "half", Labels: labelled("ok", "1"), Unit: api.Unit{0, -3, 0}},
		{Name: "half", Labels: labelled("ok", "2"), Unit: api.Unit{0, -4, 0}},
		{Name: "half", Labels: labelled("ok", "3"), Unit: api.Unit{1, 0, 0}},
		{Name: "edge", Unit: api.Unit{0, 0, math.MinInt}},
		{Name: "beyond", Unit: api.Unit{0, math.MaxInt, 0}},
		// Only Name, Labels and Unit of a declaration matter, and the lists need be no label sets.
		{Name: "odd", Labels: labelled("z", "1", "b", "", "z", "2", "A", "{"), Unit: api.Unit{0, 1, 1}, Lo: 5, Hi: -5, Down: math.MaxInt, Up: math.MinInt, First: 9, Last: -9, Budget: -1},
		{Name: "Bad name", Unit: api.Unit{4, 4, 4}},
		{Name: "", Unit: api.Unit{4, 4, 4}},
	}
}

// P8.4: units and errors worked out by hand.
func TestOfKnown(t *testing.T) {
	for query, want := range map[string]struct {
		u   api.Unit
		err api.Errno
	}{
		"7":                      {api.Unit{}, api.OK},
		"7*8/9-1":                {api.Unit{}, api.OK},
		"req":                    {api.Unit{1, 0, 0}, api.OK},
		"size@3":                 {api.Unit{0, 1, 0}, api.OK},
		"plain":                  {api.Unit{}, api.OK},
		"plain+1":                {api.Unit{}, api.OK},
		"1-plain":                {api.Unit{}, api.OK},
		"high":                   {api.Unit{3, 3, 3}, api.OK},
		"low":                    {api.Unit{-3, -3, -3}, api.OK},
		"odd":                    {api.Unit{0, 1, 1}, api.OK},
		`odd{z="1",b=""}`:        {api.Unit{0, 1, 1}, api.OK},
		`odd{z="2"}`:             {api.Unit{}, api.ErrName},
		"none":                   {api.Unit{}, api.ErrName},
		"re":                     {api.Unit{}, api.ErrName},
		"reqs":                   {api.Unit{}, api.ErrName},
		`req{code="404"}`:        {api.Unit{}, api.ErrName},
		`req{code="500"}`:        {api.Unit{1, 0, 0}, api.OK},
		`req{code!="404"}`:       {api.Unit{1, 0, 0}, api.OK},
		`req{code^="5",zone=""}`: {api.Unit{}, api.ErrName},
		"mix":                    {api.Unit{}, api.ErrType},
		`mix{kind="item"}`:       {api.Unit{1, 0, 0}, api.OK},
		`mix{kind!="item"}`:      {api.Unit{0, 0, 1}, api.OK},
		`mix{new=""}`:            {api.Unit{}, api.ErrType},
		"half":                   {api.Unit{}, api.ErrLimit},
		`half{ok!="2"}`:          {api.Unit{}, api.ErrType},
		`half{ok!="3"}`:          {api.Unit{}, api.ErrLimit},
		`half{ok="1"}`:           {api.Unit{0, -3, 0}, api.OK},
		"edge":                   {api.Unit{}, api.ErrLimit},
		"edge.rate(1)":           {api.Unit{}, api.ErrLimit},
		"beyond":                 {api.Unit{}, api.ErrLimit},
		// Functions of a window.
		"req.least(5)":             {api.Unit{1, 0, 0}, api.OK},
		"req.greatest(5)":          {api.Unit{1, 0, 0}, api.OK},
		"req.total(5)":             {api.Unit{1, 0, 0}, api.OK},
		"req.mean(5)":              {api.Unit{1, 0, 0}, api.OK},
		"req.increase(5)":          {api.Unit{1, 0, 0}, api.OK},
		"req.kth(5,2)":             {api.Unit{1, 0, 0}, api.OK},
		"req.rate(5)":              {api.Unit{1, 0, -1}, api.OK},
		"plain.rate(1)":            {api.Unit{0, 0, -1}, api.OK},
		"high.rate(1)":             {api.Unit{3, 3, 2}, api.OK},
		"low.rate(1)":              {api.Unit{}, api.ErrLimit},
		"low.increase(1)":          {api.Unit{-3, -3, -3}, api.OK},
		"mix.rate(1)":              {api.Unit{}, api.ErrType},
		`mix{kind="tick"}.rate(1)`: {api.Unit{}, api.OK},
		// Groups.
		"sum(1)":                    {api.Unit{}, api.ErrType},
		"count(1)":                  {api.Unit{}, api.ErrType},
		"sum(1+2*3)":                {api.Unit{}, api.ErrType},
		"sum(req)":                  {api.Unit{1, 0, 0}, api.OK},
		"min by(zone)(req)":         {api.Unit{1, 0, 0}, api.OK},
		"max by(none)(req)":         {api.Unit{1, 0, 0}, api.OK},
		"kth(2)by(zone)(req)":       {api.Unit{1, 0, 0}, api.OK},
		"count by(zone)(req)":       {api.Unit{}, api.OK},
		"count(high)":               {api.Unit{}, api.OK},
		"count(mix)":                {api.Unit{}, api.ErrType},
		"count(none)":               {api.Unit{}, api.ErrName},
		"count(high*high)":          {api.Unit{}, api.ErrLimit},
		"sum(2*req)":                {api.Unit{1, 0, 0}, api.OK},
		"sum(req*2)":                {api.Unit{1, 0, 0}, api.OK},
		"sum(sum by(zone)(req))":    {api.Unit{1, 0, 0}, api.OK},
		"sum by(zone)(req)/2":       {api.Unit{1, 0, 0}, api.OK},
		"sum by(zone)(req.rate(1))": {api.Unit{1, 0, -1}, api.OK},
		// Operations.
		"req/req":             {api.Unit{}, api.OK},
		"req+1":               {api.Unit{}, api.ErrType},
		"1+req":               {api.Unit{}, api.ErrType},
		"req-1":               {api.Unit{}, api.ErrType},
		"req+req":             {api.Unit{1, 0, 0}, api.OK},
		"req-req.rate(1)":     {api.Unit{}, api.ErrType},
		"req+size":            {api.Unit{}, api.ErrType},
		"req*size":            {api.Unit{1, 1, 0}, api.OK},
		"req*2":               {api.Unit{1, 0, 0}, api.OK},
		"2/req":               {api.Unit{-1, 0, 0}, api.OK},
		"req*req*req":         {api.Unit{3, 0, 0}, api.OK},
		"req*req*req*req":     {api.Unit{}, api.ErrLimit},
		"req*req*req*req/req": {api.Unit{}, api.ErrLimit},
		"req*req*req/req*req": {api.Unit{3, 0, 0}, api.OK},
		"1/req/req/req":       {api.Unit{-3, 0, 0}, api.OK},
		"1/req/req/req/req":   {api.Unit{}, api.ErrLimit},
		"high*low":            {api.Unit{}, api.OK},
		"high/high":           {api.Unit{}, api.OK},
		"high/low":            {api.Unit{}, api.ErrLimit},
		"high*plain":          {api.Unit{3, 3, 3}, api.OK},
		"high*size":           {api.Unit{}, api.ErrLimit},
		"low/size":            {api.Unit{}, api.ErrLimit},
		// Rows.
		"sum(req)+req":                             {api.Unit{}, api.ErrType},
		"req*sum(req)":                             {api.Unit{}, api.ErrType},
		"sum(req)+sum(req)":                        {api.Unit{1, 0, 0}, api.OK},
		"sum by()(req)/max(req)":                   {api.Unit{}, api.OK},
		"sum by(zone)(req)/max(req)":               {api.Unit{}, api.ErrType},
		"sum by(zone)(req)/max by(zone)(size)":     {api.Unit{1, -1, 0}, api.OK},
		"sum by(zone)(req)/max by(code)(req)":      {api.Unit{}, api.ErrType},
		"sum by(code)(req)/max by(code,zone)(req)": {api.Unit{}, api.ErrType},
		"2*sum by(zone)(req)-max by(zone)(req)/3":  {api.Unit{1, 0, 0}, api.OK},
		"2*sum by(zone)(req)-max by(code)(req)/3":  {api.Unit{}, api.ErrType},
		// An operand comes before the operation, and the first operand before the second.
		"none+mix":                    {api.Unit{}, api.ErrName},
		"mix+none":                    {api.Unit{}, api.ErrType},
		"low.rate(1)+none":            {api.Unit{}, api.ErrLimit},
		"(req+1)*none":                {api.Unit{}, api.ErrType},
		"none*(req+1)":                {api.Unit{}, api.ErrName},
		"(req+size)*half":             {api.Unit{}, api.ErrType},
		"sum(1)+none":                 {api.Unit{}, api.ErrType},
		"sum(none)+sum(1)":            {api.Unit{}, api.ErrName},
		"sum(high*high)+req":          {api.Unit{}, api.ErrLimit},
		"high*high+sum(req)":          {api.Unit{}, api.ErrLimit},
		"high*sum(high)":              {api.Unit{}, api.ErrType},
		"(req+sum(req))*none":         {api.Unit{}, api.ErrType},
		"sum by(zone)(req)-sum(none)": {api.Unit{}, api.ErrName},
	} {
		e := read(t, query)
		if u, err := types.Of(series(), e); u != want.u || err != want.err {
			t.Errorf("Of(%s) is %v, %d, want %v, %d", query, u, err, want.u, want.err)
		}
		checkOf(t, series(), e)
	}
}

// P8.4: the unit of all selected series matters, wherever they are declared.
func TestOfSelected(t *testing.T) {
	e, rate := read(t, "a"), read(t, "a.rate(3)")
	for _, first := range unitsFrom(-4, 4) {
		for _, second := range []api.Unit{first, {}, {0, 0, 3}, {0, 0, -4}} {
			d := []api.Decl{{Name: "a", Unit: first}, {Name: "b", Unit: api.Unit{7, 7, 7}}, {Name: "a", Unit: second}}
			checkOf(t, d, e)
			checkOf(t, d, rate)
			slices.Reverse(d)
			checkOf(t, d, e)
			checkOf(t, d[:1], rate)
		}
	}
}

// P8.4: operations of any two units of series that are valid.
func TestOfOperations(t *testing.T) {
	var operations []api.Expr
	for _, sign := range []string{"+", "-", "*", "/"} {
		operations = append(operations, read(t, "a"+sign+"b"), read(t, "a"+sign+"2"), read(t, "2"+sign+"b"))
	}
	for _, first := range unitsFrom(-3, 3) {
		for _, second := range []api.Unit{first, {}, {0, 0, 1}, {1, -1, 0}, {-1, 2, -3}, {3, 3, 3}, {0, -3, 0}} {
			for _, e := range operations {
				checkOf(t, []api.Decl{{Name: "a", Unit: first}, {Name: "b", Unit: second}}, e)
			}
		}
	}
}

// P8.4: no declarations at all.
func TestOfNothing(t *testing.T) {
	for _, d := range [][]api.Decl{nil, {}} {
		if u, err := types.Of(d, read(t, "1+2")); u != (api.Unit{}) || err != api.OK {
			t.Errorf("a number has the unit %v and the error %d", u, err)
		}
		if u, err := types.Of(d, read(t, "a")); u != (api.Unit{}) || err != api.ErrName {
			t.Errorf("a selection has the unit %v and the error %d", u, err)
		}
	}
}

// P8.3: rows worked out by hand.
func TestByKnown(t *testing.T) {
	for query, want := range map[string]struct {
		by       string
		isNumber bool
	}{
		"1":                                    {"", true},
		"1+2":                                  {"", true},
		"1*(2-3)/4":                            {"", true},
		"req":                                  {"*", false},
		`req{zone="a"}.rate(5)@3`:              {"*", false},
		"req+1":                                {"*", false},
		"1+req":                                {"*", false},
		"1+2*(3-req)":                          {"*", false},
		"sum(req)":                             {"", false},
		"sum by()(req)":                        {"", false},
		"sum by(zone)(req)":                    {"zone", false},
		"sum by(zone)(req)/2":                  {"zone", false},
		"2/sum by(zone)(req)":                  {"zone", false},
		"kth(3)by(a,b,c,d,e,f,g,h)(req)":       {"a,b,c,d,e,f,g,h", false},
		"sum by(zone)(sum by(code,zone)(req))": {"zone", false},
		"sum(1)":                               {"", false},
		"sum by(a)(1)":                         {"a", false},
		"sum by(a)(x)+sum by(b)(x)":            {"a", false},
		"1+sum by(b)(x)+sum by(a)(x)":          {"b", false},
		"1+2+(3+sum by(b)(x)*sum by(a)(x))":    {"b", false},
		"x-sum by(a)(x)":                       {"*", false},
		"sum by(a)(x)-x":                       {"a", false},
		"sum(x)-x":                             {"", false},
		"(1-2)*sum(x)-x":                       {"", false},
		"none+mix":                             {"*", false},
	} {
		e := read(t, query)
		if by, isNumber := types.By(e); strings.Join(by, ",") != want.by || isNumber != want.isNumber {
			t.Errorf("By(%s) is %q, %t", query, by, isNumber)
		}
		checkBy(t, e)
	}
}

// P8.3, P8.4: trees that are not valid, for every reason, alone and as an operand.
func TestInvalid(t *testing.T) {
	selection, number := read(t, "req"), read(t, "1")
	deep := number
	for range 12 {
		deep = api.Expr{Kind: api.ExBinary, Kids: []api.Expr{deep, number}}
	}
	huge := selection
	for range 100 {
		huge = api.Expr{Kind: api.ExBinary, Kids: []api.Expr{huge, huge}}
	}
	loop := api.Expr{Kind: api.ExBinary, Kids: make([]api.Expr, 2)}
	loop.Kids[0], loop.Kids[1] = loop, loop
	for i, k := range []struct {
		e    api.Expr
		want api.Errno
	}{
		{api.Expr{}, api.ErrArg},
		{api.Expr{Kind: 4}, api.ErrArg},
		{api.Expr{Kind: -1}, api.ErrArg},
		{api.Expr{Kind: api.ExBinary}, api.ErrArg},
		{api.Expr{Kind: api.ExBinary, Fun: 4, Kids: []api.Expr{selection, selection}}, api.ErrArg},
		{api.Expr{Kind: api.ExBinary, Kids: []api.Expr{selection}}, api.ErrArg},
		{api.Expr{Kind: api.ExGroup, By: []string{"zone"}}, api.ErrArg},
		{api.Expr{Kind: api.ExGroup, Kids: []api.Expr{selection, selection}}, api.ErrArg},
		{api.Expr{Kind: api.ExNum, Num: api.Frac{Num: 2, Den: 4}}, api.ErrArg},
		{api.Expr{Kind: api.ExSelect, Name: "req", By: []string{"zone"}}, api.ErrArg},
		{api.Expr{Kind: api.ExSelect, Name: "Bad name"}, api.ErrName},
		{api.Expr{Kind: api.ExSelect, Name: "sum"}, api.ErrName},
		{api.Expr{Kind: api.ExSelect}, api.ErrName},
		{api.Expr{Kind: api.ExSelect, Name: "req", Matchers: []api.Matcher{{Name: "a", Kind: 3}}}, api.ErrName},
		{api.Expr{Kind: api.ExGroup, By: []string{"*"}, Kids: []api.Expr{selection}}, api.ErrName},
		{api.Expr{Kind: api.ExGroup, By: []string{"b", "a"}, Kids: []api.Expr{selection}}, api.ErrName},
		{api.Expr{Kind: api.ExSelect, Name: "req", Window: 1}, api.ErrRange},
		{api.Expr{Kind: api.ExSelect, Name: "req", Fun: api.FunRate}, api.ErrRange},
		{api.Expr{Kind: api.ExGroup, K: 1, Kids: []api.Expr{selection}}, api.ErrRange},
		{api.Expr{Kind: api.ExSelect, Name: "req", Matchers: slices.Repeat([]api.Matcher{{Name: "a"}}, 9)}, api.ErrLimit},
		{deep, api.ErrLimit},
		{huge, api.ErrLimit},
		{loop, api.ErrLimit},
	} {
		for place, e := range []api.Expr{
			k.e,
			{Kind: api.ExBinary, Kids: []api.Expr{k.e, read(t, "none")}},
			{Kind: api.ExBinary, Kids: []api.Expr{read(t, "none+sum(1)"), k.e}},
			{Kind: api.ExGroup, By: []string{"zone"}, Kids: []api.Expr{k.e}},
		} {
			if u, err := types.Of(series(), e); u != (api.Unit{}) || err != k.want {
				t.Errorf("case %d, %d: Of is %v, %d, want the error %d", i, place, u, err, k.want)
			}
			if by, isNumber := types.By(e); len(by) != 0 || isNumber {
				t.Errorf("case %d, %d: By is %q, %t", i, place, by, isNumber)
			}
		}
	}
}

// P8.3, R4: the lists that By returns are new.
func TestByNew(t *testing.T) {
	for _, query := range []string{"a", "sum by(x,y)(a)", "2*sum by(x,y)(a)"} {
		e := read(t, query)
		before := show(e)
		by, _ := types.By(e)
		for i := range by {
			by[i] = "changed"
		}
		_ = append(by, "changed")
		if show(e) != before {
			t.Errorf("a change of the list that By returns changes %s", query)
		}
		checkBy(t, e)
	}
	names := []string{"x", "y", "z"}
	by, _ := types.By(api.Expr{Kind: api.ExGroup, By: names[:2], Kids: []api.Expr{read(t, "a")}})
	_ = append(by, "changed")
	if names[2] != "z" {
		t.Error("the list that By returns has the spare capacity of an argument")
	}
}

// P8.3, P8.4: random trees with random declarations; each error occurs, and none.
func TestOfRandom(t *testing.T) {
	r := rand.New(rand.NewSource(5))
	counts := map[string]int{}
	for range 60000 {
		e := randomTree(r, 1+r.Intn(6))
		_, err := checkOf(t, randomDecls(r), e)
		counts[fmt.Sprint(e.Kind, err)]++
	}
	for _, kind := range []int{api.ExSelect, api.ExGroup, api.ExBinary} {
		for _, err := range []api.Errno{api.OK, api.ErrName, api.ErrType, api.ErrLimit} {
			if counts[fmt.Sprint(kind, err)] < 50 {
				t.Errorf("the numbers of trees by kinds and errors are %v", counts)
			}
		}
	}
}

// P8.7: the order of declarations and other declarations do not matter.
func TestOfOrder(t *testing.T) {
	r := rand.New(rand.NewSource(6))
	for range 10000 {
		e, d := randomTree(r, 1+r.Intn(5)), randomDecls(r)
		u, err := types.Of(d, e)
		more := slices.Clone(d)
		for range r.Intn(4) {
			more = append(more, api.Decl{Name: []string{"d", "", "aa", "A"}[r.Intn(4)], Unit: randomUnit(r)})
		}
		r.Shuffle(len(more), func(i, j int) { more[i], more[j] = more[j], more[i] })
		if again, againErr := types.Of(more, e); again != u || againErr != err {
			t.Fatalf("Of(%v, %s) is %v, %d, but with %v %v, %d", d, show(e), u, err, more, again, againErr)
		}
		used := slices.DeleteFunc(slices.Clone(d), func(s api.Decl) bool { return !isSelected(e, s) })
		if again, againErr := types.Of(used, e); again != u || againErr != err {
			t.Fatalf("Of(%v, %s) is %v, %d, but with the selected series alone %v, %d", d, show(e), u, err, again, againErr)
		}
	}
}

// isSelected reports whether any selection of a tree selects a series.
func isSelected(e api.Expr, s api.Decl) bool {
	return slices.ContainsFunc(preorder(e), func(node api.Expr) bool {
		return node.Kind == api.ExSelect && node.Name == s.Name && labels.Match(s.Labels, node.Matchers)
	})
}

// P8.8: quotients, counts and differences of an expression.
func TestOfDerived(t *testing.T) {
	r := rand.New(rand.NewSource(7))
	found := 0
	for range 40000 {
		e, d := randomTree(r, 1+r.Intn(4)), randomDecls(r)
		u, err := types.Of(d, e)
		if err != api.OK {
			continue
		}
		found++
		quotient := api.Expr{Kind: api.ExBinary, Fun: api.OpDiv, Kids: []api.Expr{e, e}}
		difference := api.Expr{Kind: api.ExBinary, Fun: api.OpSub, Kids: []api.Expr{e, e}}
		count := api.Expr{Kind: api.ExGroup, Fun: api.GrpCount, By: []string{"x"}, Kids: []api.Expr{e}}
		if got, err := types.Of(d, quotient); got != (api.Unit{}) || err != api.OK {
			t.Fatalf("the quotient of %s has the unit %v and the error %d", show(e), got, err)
		}
		if got, err := types.Of(d, difference); got != u || err != api.OK {
			t.Fatalf("the difference of %s has the unit %v and the error %d", show(e), got, err)
		}
		want := api.OK
		if _, isNumber := types.By(e); isNumber {
			want = api.ErrType
		}
		if got, err := types.Of(d, count); got != (api.Unit{}) || err != want {
			t.Fatalf("the count of %s has the unit %v and the error %d", show(e), got, err)
		}
	}
	if found < 1000 {
		t.Errorf("only %d trees have a unit", found)
	}
}

// P8.9: the tree of the canonical source, and equal trees.
func TestCanonical(t *testing.T) {
	r := rand.New(rand.NewSource(8))
	changed := 0
	for range 20000 {
		e, d := randomTree(r, 1+r.Intn(5)), randomDecls(r)
		source, err := parser.Print(e)
		if err != api.OK {
			t.Fatalf("Print(%s) leads to the error %d", show(e), err)
		}
		again, _, err := parser.Parse(source)
		if err != api.OK {
			continue // A fraction has more levels in its source.
		}
		if !parser.Equal(e, again) {
			changed++
		}
		checkSame(t, d, e, again)
		again.Kids, again.By, again.Matchers = slices.Concat(again.Kids), slices.Concat(again.By), append([]api.Matcher{}, again.Matchers...)
		checkSame(t, d, e, again)
	}
	if changed < 100 {
		t.Errorf("only %d trees differ from those of their sources", changed)
	}
}

// checkSame checks that two trees have the same unit and the same rows.
func checkSame(t *testing.T, d []api.Decl, a, b api.Expr) {
	t.Helper()
	unitA, errA := types.Of(d, a)
	unitB, errB := types.Of(d, b)
	byA, isNumberA := types.By(a)
	byB, isNumberB := types.By(b)
	if unitA != unitB || errA != errB || !slices.Equal(byA, byB) || isNumberA != isNumberB {
		t.Fatalf("%s and %s differ: %v, %d, %q, %t and %v, %d, %q, %t", show(a), show(b), unitA, errA, byA, isNumberA, unitB, errB, byB, isNumberB)
	}
}

// R1: large trees with many series.
func TestOfLarge(t *testing.T) {
	d := slices.Repeat(series()[:2], 2048)
	wide := "req"
	for range 6 {
		wide = "(" + wide + "+" + wide + ")"
	}
	deep := strings.Repeat("max by(zone)(", 11) + "req" + strings.Repeat(")", 11)
	for _, query := range []string{wide, deep} {
		if u, err := types.Of(d, read(t, query)); u != (api.Unit{1, 0, 0}) || err != api.OK {
			t.Errorf("Of(%s) is %v, %d", query, u, err)
		}
	}
}
