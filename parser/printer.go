package parser

import (
	"strconv"
	"strings"

	"intervalmon/api"
	"intervalmon/frac"
)

// Print returns the canonical source of a tree.
func Print(e api.Expr) (string, api.Errno) {
	if err := Valid(e); err != api.OK {
		return "", err
	}
	for _, node := range preorder(e) {
		// A node without a number has 0 here, which every source can contain.
		if !isFrom(-api.MaxValue, node.Num.Num, api.MaxValue) || node.Num.Den > api.MaxValue {
			return "", api.ErrRange
		}
	}
	s := source(e)
	if len(s) > api.MaxText {
		return "", api.ErrLimit
	}
	return s, api.OK
}

// source returns the canonical source of a valid tree.
func source(e api.Expr) string {
	switch e.Kind {
	case api.ExNum:
		return number(e.Num)
	case api.ExSelect:
		return selection(e)
	case api.ExGroup:
		return group(e) + "(" + source(e.Kids[0]) + ")"
	}
	return operand(e, 0) + operators[e.Fun] + operand(e, 1)
}

// operand returns an operand of an operation, in parentheses if they are needed.
func operand(e api.Expr, place int) string {
	kid := e.Kids[place]
	s := source(kid)
	if kid.Kind != api.ExBinary || precedence(kid) > precedence(e) || precedence(kid) == precedence(e) && place == 0 {
		return s
	}
	return "(" + s + ")"
}

// precedence returns a number that is greater for operations that are done first.
func precedence(e api.Expr) int {
	if e.Fun == api.OpMul || e.Fun == api.OpDiv {
		return 1
	}
	return 0
}

// number returns a fraction as a factor. The minus sign of a negative fraction becomes that of a difference.
func number(a api.Frac) string {
	switch text := frac.Text(a); {
	case a.Num < 0:
		return "(0" + text + ")"
	case a.Den > 1:
		return "(" + text + ")"
	default:
		return text
	}
}

// selection returns a selection.
func selection(e api.Expr) string {
	s := e.Name
	if len(e.Matchers) > 0 {
		s += "{" + matchers(e.Matchers) + "}"
	}
	if e.Fun != api.FunLast {
		s += "." + functionWords[e.Fun] + "(" + strconv.Itoa(e.Window)
		if e.Fun == api.FunKth {
			s += "," + strconv.Itoa(e.K)
		}
		s += ")"
	}
	if e.Offset != 0 {
		s += "@" + strconv.Itoa(e.Offset)
	}
	return s
}

// matchers returns the matchers of a selection without the braces.
func matchers(list []api.Matcher) string {
	parts := make([]string, 0, len(list))
	for _, m := range list {
		parts = append(parts, m.Name+matcherSigns[m.Kind]+`"`+m.Value+`"`)
	}
	return strings.Join(parts, ",")
}

// group returns a group without its operand.
func group(e api.Expr) string {
	s := groupWords[e.Fun]
	if e.Fun == api.GrpKth {
		s += "(" + strconv.Itoa(e.K) + ")"
	}
	if len(e.By) == 0 {
		return s
	}
	if e.Fun != api.GrpKth {
		s += " "
	}
	return s + "by(" + strings.Join(e.By, ",") + ")"
}
