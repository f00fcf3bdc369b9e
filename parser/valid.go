package parser

import (
	"intervalmon/api"
	"intervalmon/frac"
	"intervalmon/labels"
)

// Valid returns the first error of a tree.
func Valid(e api.Expr) api.Errno {
	if !isSmall(e) {
		return api.ErrLimit
	}
	for _, node := range preorder(e) {
		if err := nodeError(node); err != api.OK {
			return err
		}
	}
	return api.OK
}

// nodeError returns the first error of a node, whatever its Kids are.
func nodeError(e api.Expr) api.Errno {
	switch {
	case !isFormed(e):
		return api.ErrArg
	case !isNamed(e):
		return api.ErrName
	case len(e.Matchers) > api.MaxLabels || len(e.By) > api.MaxLabels:
		return api.ErrLimit
	case !isInRange(e):
		return api.ErrRange
	}
	return api.OK
}

// isFormed reports whether a node has a kind, and what belongs to this kind and nothing else.
func isFormed(e api.Expr) bool {
	functions, kids := 1, 0
	// What remains after the removal of all that the kind uses must be zero.
	unused := e
	unused.Kind, unused.Fun, unused.Kids = 0, 0, nil
	switch e.Kind {
	case api.ExNum:
		if !frac.Valid(e.Num) {
			return false
		}
		unused.Num = api.Frac{}
	case api.ExSelect:
		functions = len(functionWords)
		unused.Window, unused.Offset, unused.K, unused.Name, unused.Matchers = 0, 0, 0, "", nil
	case api.ExGroup:
		functions, kids = len(groupWords), 1
		unused.K, unused.By = 0, nil
	case api.ExBinary:
		functions, kids = len(operators), 2
	default:
		return false
	}
	return isFrom(0, e.Fun, functions-1) && len(e.Kids) == kids && Equal(unused, api.Expr{})
}

// isNamed reports whether all names in a node are names that may be there.
func isNamed(e api.Expr) bool {
	if e.Kind == api.ExSelect && (!labels.Name(e.Name) || isGroupWord(e.Name)) {
		return false
	}
	for _, m := range e.Matchers {
		if !labels.ValidMatcher(m) {
			return false
		}
	}
	for i, name := range e.By {
		if !labels.Name(name) || i > 0 && name <= e.By[i-1] {
			return false
		}
	}
	return true
}

// isGroupWord reports whether s is a group word.
func isGroupWord(s string) bool {
	for _, word := range groupWords {
		if s == word {
			return true
		}
	}
	return false
}

// isInRange reports whether the numbers of a selection or group are those that its function can have.
func isInRange(e api.Expr) bool {
	switch e.Kind {
	case api.ExSelect:
		return isFrom(0, e.Offset, api.MaxWindow) &&
			isNeeded(e.Fun != api.FunLast, e.Window, api.MaxWindow) && isNeeded(e.Fun == api.FunKth, e.K, e.Window)
	case api.ExGroup:
		return isNeeded(e.Fun == api.GrpKth, e.K, api.MaxSeries)
	}
	return true
}

// isNeeded reports whether n is from 1 to hi if a function needs it, and 0 if not.
func isNeeded(needed bool, n, hi int) bool {
	if !needed {
		return n == 0
	}
	return isFrom(1, n, hi)
}

// isFrom reports whether n is from lo to hi.
func isFrom(lo, n, hi int) bool {
	return lo <= n && n <= hi
}
