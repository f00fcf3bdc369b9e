package parser

import (
	"intervalmon/api"
	"intervalmon/lexer"
)

// end is the text of the symbol that stands for the end of a query. No other symbol is empty, so the end is never taken for one.
const end = ""

// reader holds the tokens of a query that are not read yet. The end is the last one of them and is read only when nothing follows.
type reader struct {
	rest []lexer.Token
}

// fault is what the methods of a reader panic with: the offset of a token and its error.
type fault struct {
	at  int
	err api.Errno
}

// query reads a whole query.
func (r *reader) query() api.Expr {
	e := r.expression()
	last := r.rest[0]
	r.symbol(end)
	if !isSmall(e) {
		panic(fault{last.At, api.ErrLimit})
	}
	return e
}

// expression reads terms joined by + and -.
func (r *reader) expression() api.Expr {
	return r.operations(r.term, api.OpAdd, api.OpSub)
}

// term reads factors joined by * and /.
func (r *reader) term() api.Expr {
	return r.operations(r.factor, api.OpMul, api.OpDiv)
}

// operations reads operands joined by operators of the same precedence.
func (r *reader) operations(operand func() api.Expr, funs ...int) api.Expr {
	e := operand()
	for {
		fun, found := r.operator(funs)
		if !found {
			return e
		}
		second := operand()
		e = api.Expr{Kind: api.ExBinary, Fun: fun, Kids: []api.Expr{e, second}}
	}
}

// operator reads the operator of one of some operations, if it is next.
func (r *reader) operator(funs []int) (int, bool) {
	for _, fun := range funs {
		if r.accept(lexer.Symbol, operators[fun]) {
			return fun, true
		}
	}
	return 0, false
}

// factor reads a number, a group, a selection or an expression in parentheses.
func (r *reader) factor() api.Expr {
	switch r.rest[0].Kind {
	case lexer.Number:
		return api.Expr{Kind: api.ExNum, Num: api.Frac{Num: r.take(lexer.Number).N, Den: 1}}
	case lexer.Word:
		return r.rows()
	}
	return r.enclosed()
}

// enclosed reads an expression in parentheses.
func (r *reader) enclosed() api.Expr {
	r.symbol("(")
	e := r.expression()
	r.symbol(")")
	return e
}

// rows reads a group or a selection.
func (r *reader) rows() api.Expr {
	for fun, word := range groupWords {
		if r.accept(lexer.Word, word) {
			return r.group(fun)
		}
	}
	return r.selection()
}

// group reads what follows the group word of a function.
func (r *reader) group(fun int) api.Expr {
	e := api.Expr{Kind: api.ExGroup, Fun: fun}
	if fun == api.GrpKth {
		r.symbol("(")
		e.K = r.number(1, api.MaxSeries)
		r.symbol(")")
	}
	if r.accept(lexer.Word, "by") {
		r.symbol("(")
		e.By = r.names()
	}
	e.Kids = []api.Expr{r.enclosed()}
	return e
}

// names reads the names of a by clause and the parenthesis behind them.
func (r *reader) names() []string {
	var by []string
	r.list(")", func() {
		name := r.take(lexer.Word)
		if len(by) == api.MaxLabels {
			panic(fault{name.At, api.ErrLimit})
		}
		if len(by) > 0 && name.Text <= by[len(by)-1] {
			panic(fault{name.At, api.ErrName})
		}
		by = append(by, name.Text)
	})
	return by
}

// selection reads a selection.
func (r *reader) selection() api.Expr {
	e := api.Expr{Kind: api.ExSelect, Fun: api.FunLast, Name: r.take(lexer.Word).Text}
	if r.accept(lexer.Symbol, "{") {
		e.Matchers = r.matchers()
	}
	if r.accept(lexer.Symbol, ".") {
		e.Fun = r.function()
		e.Window, e.K = r.arguments(e.Fun)
	}
	if r.accept(lexer.Symbol, "@") {
		e.Offset = r.number(0, api.MaxWindow)
	}
	return e
}

// matchers reads the matchers of a selection and the brace behind them.
func (r *reader) matchers() []api.Matcher {
	var matchers []api.Matcher
	r.list("}", func() {
		name := r.take(lexer.Word)
		if len(matchers) == api.MaxLabels {
			panic(fault{name.At, api.ErrLimit})
		}
		kind := r.matcherKind()
		matchers = append(matchers, api.Matcher{Name: name.Text, Kind: kind, Value: r.take(lexer.Text).Text})
	})
	return matchers
}

// matcherKind reads the symbol of a matcher.
func (r *reader) matcherKind() int {
	for kind, sign := range matcherSigns {
		if r.accept(lexer.Symbol, sign) {
			return kind
		}
	}
	panic(fault{r.rest[0].At, api.ErrForm})
}

// function reads a function word.
func (r *reader) function() int {
	for fun, word := range functionWords {
		if r.accept(lexer.Word, word) {
			return fun
		}
	}
	panic(fault{r.rest[0].At, api.ErrForm})
}

// arguments reads the numbers of a function.
func (r *reader) arguments(fun int) (window, k int) {
	if fun == api.FunLast {
		return 0, 0
	}
	r.symbol("(")
	window = r.number(1, api.MaxWindow)
	if fun == api.FunKth {
		r.symbol(",")
		k = r.number(1, window)
	}
	r.symbol(")")
	return window, k
}

// list reads elements separated by commas, or none, and the symbol behind them.
func (r *reader) list(closing string, element func()) {
	if r.accept(lexer.Symbol, closing) {
		return
	}
	element()
	for r.accept(lexer.Symbol, ",") {
		element()
	}
	r.symbol(closing)
}

// number reads a number from lo to hi.
func (r *reader) number(lo, hi int) int {
	t := r.take(lexer.Number)
	if t.N < lo || t.N > hi {
		panic(fault{t.At, api.ErrRange})
	}
	return t.N
}

// symbol reads a symbol, which must be next.
func (r *reader) symbol(text string) {
	if !r.accept(lexer.Symbol, text) {
		panic(fault{r.rest[0].At, api.ErrForm})
	}
}

// take reads a token of a kind, which must be next.
func (r *reader) take(kind int) lexer.Token {
	t := r.rest[0]
	if t.Kind != kind {
		panic(fault{t.At, api.ErrForm})
	}
	r.rest = r.rest[1:]
	return t
}

// accept reads a token of a kind with a text, if it is next, and reports whether it is.
func (r *reader) accept(kind int, text string) bool {
	if t := r.rest[0]; t.Kind != kind || t.Text != text {
		return false
	}
	r.rest = r.rest[1:]
	return true
}
