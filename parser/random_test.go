package parser_test

import (
	"math/rand"
	"slices"
	"strconv"
	"strings"

	"intervalmon/api"
)

// randomName returns a name that is not a group word.
func randomName(r *rand.Rand) string {
	for {
		b := []byte{"abcxyz"[r.Intn(6)]}
		for range r.Intn(4) {
			b = append(b, "abz019_"[r.Intn(7)])
		}
		name := []string{string(b), string(b), "by", "last", "rate", "zzzzzzzzzzzzzzzz"}[r.Intn(6)]
		if !slices.Contains(aggregates, name) {
			return name
		}
	}
}

// randomTree returns a valid tree with at most a number of levels; its numbers are natural, or have any value that Print accepts.
func randomTree(r *rand.Rand, depth int, fractions bool) api.Expr {
	if depth == 1 || r.Intn(8) == 0 {
		if r.Intn(3) == 0 {
			return randomNumber(r, fractions)
		}
		return randomSelection(r)
	}
	if r.Intn(4) == 0 {
		e := group(r.Intn(5), 0, randomTree(r, depth-1, fractions))
		if e.Fun == api.GrpKth {
			e.K = 1 + r.Intn(4096)
		}
		for range r.Intn(4) {
			e.By = append(e.By, []string{randomName(r), "sum", "kth"}[r.Intn(3)])
		}
		slices.Sort(e.By)
		e.By = slices.Compact(e.By)
		return e
	}
	return operation(r.Intn(4), randomTree(r, depth-1, fractions), randomTree(r, depth-1, fractions))
}

// randomNumber returns the tree of a number.
func randomNumber(r *rand.Rand, fractions bool) api.Expr {
	num := []int{0, 1, 2, 10, 1 << 30, r.Intn(1<<30 + 1)}[r.Intn(6)]
	if !fractions {
		return number(num, 1)
	}
	den := []int{1, 1, 2, 3, 1 << 30, 1 + r.Intn(1<<30)}[r.Intn(6)]
	common := divisor(num, den)
	return number(num/common*(1-2*r.Intn(2)), den/common)
}

// divisor returns the greatest common divisor of a number that is at least 0 and one that is at least 1.
func divisor(a, b int) int {
	for a != 0 {
		a, b = b%a, a
	}
	return b
}

// randomSelection returns the tree of a selection.
func randomSelection(r *rand.Rand) api.Expr {
	e := series(randomName(r))
	if e.Fun = max(0, r.Intn(15)-7); e.Fun != api.FunLast {
		e.Window = []int{1, 2, 4096, 1 + r.Intn(4096)}[r.Intn(4)]
	}
	if e.Fun == api.FunKth {
		e.K = 1 + r.Intn(e.Window)
	}
	e.Offset = []int{0, 0, 0, 1, 4096, r.Intn(4097)}[r.Intn(6)]
	for range max(0, r.Intn(12)-8) {
		value := []string{"", "x", "=", "+", "1234567890123456", "a.b"}[r.Intn(6)]
		name := []string{randomName(r), "sum", "kth"}[r.Intn(3)]
		e.Matchers = append(e.Matchers, api.Matcher{Name: name, Kind: r.Intn(3), Value: value})
	}
	return e
}

// loose returns a source of a tree with, by chance, white space and up to a number of redundant parts at each place; with 0, it is the canonical source by the words of P7.3.
func loose(r *rand.Rand, e api.Expr, redundant int) string {
	all := ""
	for _, piece := range pieces(r, e, redundant) {
		if piece == "by" && all != "" && all[len(all)-1] >= 'a' && all[len(all)-1] <= 'z' {
			all += " "
		}
		for range r.Intn(redundant + 1) {
			all += []string{" ", "\t", "\n", "\r"}[r.Intn(4)]
		}
		all += piece
	}
	return all
}

// pieces returns the tokens of a source of a tree as they are written.
func pieces(r *rand.Rand, e api.Expr, redundant int) []string {
	var all []string
	switch e.Kind {
	case api.ExNum:
		all = numberPieces(e.Num)
		if len(all) == 1 {
			all[0] = strings.Repeat("0", r.Intn(redundant+1)) + all[0]
		}
	case api.ExSelect:
		all = selectionPieces(r, e, redundant)
	case api.ExGroup:
		all = groupPieces(r, e, redundant)
	case api.ExBinary:
		for i, kid := range e.Kids {
			part := pieces(r, kid, redundant)
			if needsParentheses(e, i) {
				part = enclosed(part)
			}
			all = append(all, part...)
			if i == 0 {
				all = append(all, operators[e.Fun])
			}
		}
	}
	for range r.Intn(redundant + 1) {
		all = enclosed(all)
	}
	return all
}

// numberPieces returns the tokens of a fraction.
func numberPieces(a api.Frac) []string {
	num, den := strconv.Itoa(max(a.Num, -a.Num)), strconv.Itoa(a.Den)
	switch {
	case a.Num < 0 && a.Den == 1:
		return []string{"(", "0", "-", num, ")"}
	case a.Num < 0:
		return []string{"(", "0", "-", num, "/", den, ")"}
	case a.Den == 1:
		return []string{num}
	}
	return []string{"(", num, "/", den, ")"}
}

// enclosed returns pieces in parentheses.
func enclosed(list []string) []string {
	return slices.Concat([]string{"("}, list, []string{")"})
}

// needsParentheses reports by the words of P7.3 whether an operand is written in parentheses.
func needsParentheses(e api.Expr, place int) bool {
	kid := e.Kids[place]
	if kid.Kind != api.ExBinary {
		return false
	}
	isSum, isSumInside := e.Fun <= api.OpSub, kid.Fun <= api.OpSub
	return !isSum && isSumInside || place == 1 && isSum == isSumInside
}

// selectionPieces returns the tokens of a selection.
func selectionPieces(r *rand.Rand, e api.Expr, redundant int) []string {
	all := []string{e.Name}
	if len(e.Matchers) > 0 || r.Intn(redundant+1) > 0 {
		all = append(all, "{")
		for i, m := range e.Matchers {
			if i > 0 {
				all = append(all, ",")
			}
			all = append(all, m.Name, signs[m.Kind], `"`+m.Value+`"`)
		}
		all = append(all, "}")
	}
	switch {
	case e.Fun == api.FunKth:
		all = append(all, ".", "kth", "(", strconv.Itoa(e.Window), ",", strconv.Itoa(e.K), ")")
	case e.Fun != api.FunLast:
		all = append(all, ".", functions[e.Fun], "(", strconv.Itoa(e.Window), ")")
	case r.Intn(redundant+1) > 0:
		all = append(all, ".", "last")
	}
	if e.Offset != 0 || r.Intn(redundant+1) > 0 {
		all = append(all, "@", strconv.Itoa(e.Offset))
	}
	return all
}

// groupPieces returns the tokens of a group.
func groupPieces(r *rand.Rand, e api.Expr, redundant int) []string {
	all := []string{aggregates[e.Fun]}
	if e.Fun == api.GrpKth {
		all = append(all, "(", strconv.Itoa(e.K), ")")
	}
	if len(e.By) > 0 || r.Intn(redundant+1) > 0 {
		all = append(all, "by", "(")
		for i, name := range e.By {
			if i > 0 {
				all = append(all, ",")
			}
			all = append(all, name)
		}
		all = append(all, ")")
	}
	return slices.Concat(all, enclosed(pieces(r, e.Kids[0], redundant)))
}
