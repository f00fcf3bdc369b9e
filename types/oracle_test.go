package types_test

import (
	"fmt"
	"math/rand"
	"slices"
	"strings"
	"testing"

	"intervalmon/api"
	"intervalmon/parser"
	"intervalmon/types"
)

// read returns the tree of a query.
func read(t *testing.T, query string) api.Expr {
	t.Helper()
	e, at, err := parser.Parse(query)
	if err != api.OK {
		t.Fatalf("Parse(%q) leads to the error %d at %d", query, err, at)
	}
	return e
}

// show returns a text that tells trees apart; nil and empty lists look the same.
func show(e api.Expr) string {
	return fmt.Sprintf("%+v", e)
}

// preorder returns the nodes of a tree, each before its Kids.
func preorder(e api.Expr) []api.Expr {
	all := []api.Expr{e}
	for _, kid := range e.Kids {
		all = append(all, preorder(kid)...)
	}
	return all
}

// postorder returns the nodes of a tree, each behind its Kids.
func postorder(e api.Expr) []api.Expr {
	var all []api.Expr
	for _, kid := range e.Kids {
		all = append(all, postorder(kid)...)
	}
	return append(all, e)
}

// expectedBy returns what By should return for a valid tree: the first node with rows of its own decides, since an operation has the rows of its first operand that has any.
func expectedBy(e api.Expr) ([]string, bool) {
	for _, node := range preorder(e) {
		switch node.Kind {
		case api.ExSelect:
			return []string{"*"}, false
		case api.ExGroup:
			return node.By, false
		}
	}
	return nil, true
}

// quantity is a unit by the names of its parts, without those whose exponent is 0.
type quantity map[string]int

// times returns the unit of a product of a and b, or of a and b to the power -1.
func (a quantity) times(b quantity, power int) quantity {
	all := quantity{}
	for _, name := range []string{"item", "byte", "tick"} {
		if n := a[name] + power*b[name]; n != 0 {
			all[name] = n
		}
	}
	return all
}

// isBeyond reports whether a unit is not valid.
func (a quantity) isBeyond() bool {
	for _, n := range a {
		if n < -3 || n > 3 {
			return true
		}
	}
	return false
}

// unit returns the unit as an array.
func (a quantity) unit() api.Unit {
	return api.Unit{a["item"], a["byte"], a["tick"]}
}

// quantityOf returns a unit by names.
func quantityOf(u api.Unit) quantity {
	return quantity{"item": u[0], "byte": u[1], "tick": u[2]}.times(nil, 1)
}

// expectedOf returns what Of should return, by the words of P8.4: a stack keeps the units of the nodes that are done.
func expectedOf(d []api.Decl, e api.Expr) (api.Unit, api.Errno) {
	if err := parser.Valid(e); err != api.OK {
		return api.Unit{}, err
	}
	var stack []quantity
	for _, node := range postorder(e) {
		operands := stack[len(stack)-len(node.Kids):]
		u, err := quantity{}, api.OK
		switch node.Kind {
		case api.ExSelect:
			u, err = expectedSelection(d, node)
		case api.ExGroup:
			u, err = expectedGroup(node, operands[0])
		case api.ExBinary:
			u, err = expectedOperation(node, operands[0], operands[1])
		}
		if err != api.OK {
			return api.Unit{}, err
		}
		stack = append(stack[:len(stack)-len(node.Kids)], u)
	}
	return stack[0].unit(), api.OK
}

// expectedSelection returns the unit of a selection.
func expectedSelection(d []api.Decl, node api.Expr) (quantity, api.Errno) {
	different := map[api.Unit]bool{}
	var last quantity
	isBeyond := false
	for _, s := range d {
		if s.Name != node.Name || slices.ContainsFunc(node.Matchers, func(m api.Matcher) bool { return !isTrue(m, s.Labels) }) {
			continue
		}
		different[s.Unit], last = true, quantityOf(s.Unit)
		isBeyond = isBeyond || last.isBeyond()
	}
	perTick := last
	if node.Fun == api.FunRate {
		perTick = last.times(quantity{"tick": 1}, -1)
	}
	switch {
	case len(different) == 0:
		return nil, api.ErrName
	case isBeyond:
		return nil, api.ErrLimit
	case len(different) > 1:
		return nil, api.ErrType
	case perTick.isBeyond():
		return nil, api.ErrLimit
	}
	return perTick, api.OK
}

// isTrue reports whether a matcher holds for labels.
func isTrue(m api.Matcher, l []api.Label) bool {
	value := ""
	if i := slices.IndexFunc(l, func(e api.Label) bool { return e.Name == m.Name }); i >= 0 {
		value = l[i].Value
	}
	return [3]bool{value == m.Value, value != m.Value, strings.HasPrefix(value, m.Value)}[m.Kind]
}

// expectedGroup returns the unit of a group.
func expectedGroup(node api.Expr, operand quantity) (quantity, api.Errno) {
	if _, isNumber := expectedBy(node.Kids[0]); isNumber {
		return nil, api.ErrType
	}
	if node.Fun == api.GrpCount {
		return nil, api.OK
	}
	return operand, api.OK
}

// expectedOperation returns the unit of an operation.
func expectedOperation(node api.Expr, a, b quantity) (quantity, api.Errno) {
	byA, isNumberA := expectedBy(node.Kids[0])
	byB, isNumberB := expectedBy(node.Kids[1])
	if !isNumberA && !isNumberB && !slices.Equal(byA, byB) {
		return nil, api.ErrType
	}
	u := a
	switch node.Fun {
	case api.OpMul:
		u = a.times(b, 1)
	case api.OpDiv:
		u = a.times(b, -1)
	default:
		if a.unit() != b.unit() {
			return nil, api.ErrType
		}
	}
	if u.isBeyond() {
		return nil, api.ErrLimit
	}
	return u, api.OK
}

// checkOf compares Of and By with the words of the chapter, and returns what Of returns.
func checkOf(t *testing.T, d []api.Decl, e api.Expr) (api.Unit, api.Errno) {
	t.Helper()
	before, declared := show(e), fmt.Sprintf("%+v", d)
	u, err := types.Of(d, e)
	if want, wantErr := expectedOf(d, e); u != want || err != wantErr {
		t.Fatalf("Of(%s, %s) is %v, %d, want %v, %d", declared, before, u, err, want, wantErr)
	}
	checkBy(t, e)
	if show(e) != before || fmt.Sprintf("%+v", d) != declared {
		t.Fatalf("%s or %s is changed", before, declared)
	}
	return u, err
}

// checkBy compares By with the words of the chapter.
func checkBy(t *testing.T, e api.Expr) {
	t.Helper()
	var want []string
	wantNumber := false
	if parser.Valid(e) == api.OK {
		want, wantNumber = expectedBy(e)
	}
	by, isNumber := types.By(e)
	if !slices.Equal(by, want) || isNumber != wantNumber {
		t.Fatalf("By(%s) is %q, %t", show(e), by, isNumber)
	}
}

// valueUnits are the units of random declarations: most of them such that products are valid, and some that are not valid.
var valueUnits = []api.Unit{{}, {1, 0, 0}, {1, 0, 0}, {0, 1, 0}, {0, 0, 1}, {0, 0, -1}, {1, 0, -1}, {0, 2, -1}, {3, 0, 0}, {0, 0, -3}, {-3, 3, 2}, {0, 0, 4}, {-4, 0, 0}, {0, 9, 0}}

// randomDecls returns declarations of series with the names a to c; those of equal names have equal units, mostly.
func randomDecls(r *rand.Rand) []api.Decl {
	var d []api.Decl
	for _, name := range []string{"a", "b", "c"} {
		u := valueUnits[r.Intn(len(valueUnits)-r.Intn(4))]
		for range r.Intn(4) {
			var l []api.Label
			for _, label := range []string{"x", "y"} {
				if value := []string{"", "1", "2", "12"}[r.Intn(4)]; value != "" {
					l = append(l, api.Label{Name: label, Value: value})
				}
			}
			if r.Intn(12) == 0 {
				u = valueUnits[r.Intn(len(valueUnits))]
			}
			d = append(d, api.Decl{Name: name, Labels: l, Unit: u})
		}
	}
	r.Shuffle(len(d), func(i, j int) { d[i], d[j] = d[j], d[i] })
	return d
}

// randomTree returns a valid tree with at most a number of levels.
func randomTree(r *rand.Rand, depth int) api.Expr {
	if depth == 1 || r.Intn(6) == 0 {
		if r.Intn(5) == 0 {
			return api.Expr{Kind: api.ExNum, Num: []api.Frac{{Num: 0, Den: 1}, {Num: 7, Den: 1}, {Num: -3, Den: 1}, {Num: 1, Den: 2}, {Num: -5, Den: 4}}[r.Intn(5)]}
		}
		return randomSelection(r)
	}
	if r.Intn(3) == 0 {
		return randomGroup(r, randomTree(r, depth-1))
	}
	first, second := randomTree(r, depth-1), randomTree(r, depth-1)
	// Trees without errors are rare among random ones, but not among those whose operands are alike.
	switch {
	case r.Intn(3) == 0:
		second = first
	case first.Kind == api.ExGroup && r.Intn(2) == 0:
		second = first
		second.Fun, second.K = r.Intn(4), 0
	}
	return api.Expr{Kind: api.ExBinary, Fun: r.Intn(4), Kids: []api.Expr{first, second}}
}

// randomSelection returns a selection of series that randomDecls may declare.
func randomSelection(r *rand.Rand) api.Expr {
	e := api.Expr{Kind: api.ExSelect, Name: []string{"a", "a", "b", "c"}[r.Intn(4)], Offset: r.Intn(2)}
	if e.Fun = max(0, r.Intn(14)-6); e.Fun != api.FunLast {
		e.Window = 1 + r.Intn(9)
	}
	if e.Fun == api.FunKth {
		e.K = 1 + r.Intn(e.Window)
	}
	for range max(0, r.Intn(7)-4) {
		e.Matchers = append(e.Matchers, api.Matcher{Name: []string{"x", "y", "z"}[r.Intn(3)], Kind: r.Intn(3), Value: []string{"", "1", "2", "12"}[r.Intn(4)]})
	}
	return e
}

// randomGroup returns a group with an operand.
func randomGroup(r *rand.Rand, operand api.Expr) api.Expr {
	e := api.Expr{Kind: api.ExGroup, Fun: r.Intn(5), Kids: []api.Expr{operand}}
	if e.Fun == api.GrpKth {
		e.K = 1 + r.Intn(4)
	}
	e.By = [][]string{nil, {}, {"x"}, {"y"}, {"x", "y"}}[r.Intn(5)]
	return e
}
