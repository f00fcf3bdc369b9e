package parser_test

import (
	"fmt"
	"maps"
	"slices"
	"strings"

	"intervalmon/api"
	"intervalmon/lexer"
)

// The words of the chapter, in the order of the constants.
var (
	aggregates = []string{"sum", "min", "max", "count", "kth"}
	functions  = []string{"last", "least", "greatest", "total", "mean", "increase", "rate", "kth"}
	signs      = []string{"=", "!=", "^="}
	operators  = []string{"+", "-", "*", "/"}
)

// productions is the grammar of the chapter. A word behind a colon is that word, SERIES a word that is not a group word, NAME any word.
var productions = map[string][]string{
	"query":      {"expression END"},
	"expression": {"term terms"},
	"terms":      {"", "+ term terms", "- term terms"},
	"term":       {"factor factors"},
	"factors":    {"", "* factor factors", "/ factor factors"},
	"factor":     {"NUMBER", "( expression )", "group", "selection"},
	"group":      {"aggregate clause ( expression )"},
	"aggregate":  {":sum", ":min", ":max", ":count", ":kth ( NUMBER )"},
	"clause":     {"", ":by ( names )"},
	"names":      {"", "NAME more"},
	"more":       {"", ", NAME more"},
	"selection":  {"SERIES condition window offset"},
	"condition":  {"", "{ matchers }"},
	"matchers":   {"", "matcher others"},
	"others":     {"", ", matcher others"},
	"matcher":    {"NAME sign STRING"},
	"sign":       {"=", "!=", "^="},
	"window":     {"", ". function"},
	"function": {
		":last", ":least ( NUMBER )", ":greatest ( NUMBER )", ":total ( NUMBER )", ":mean ( NUMBER )",
		":increase ( NUMBER )", ":rate ( NUMBER )", ":kth ( NUMBER , NUMBER )",
	},
	"offset": {"", "@ NUMBER"},
}

// endOf is the kind of the token for the end of a source.
const endOf = -1

// expand returns the sequences of symbols, each of which begins with a terminal, that a sequence of symbols can become.
func expand(sequence string) []string {
	first, rest, _ := strings.Cut(sequence, " ")
	bodies, found := productions[first]
	if !found {
		return []string{sequence}
	}
	var all []string
	for _, body := range bodies {
		all = append(all, expand(strings.Trim(body+" "+rest, " "))...)
	}
	return all
}

// fits reports whether a token is one of a terminal.
func fits(terminal string, t lexer.Token) bool {
	switch terminal {
	case "END":
		return t.Kind == endOf
	case "NUMBER":
		return t.Kind == lexer.Number
	case "STRING":
		return t.Kind == lexer.Text
	case "NAME":
		return t.Kind == lexer.Word
	case "SERIES":
		return t.Kind == lexer.Word && !slices.Contains(aggregates, t.Text)
	}
	if word, isWord := strings.CutPrefix(terminal, ":"); isWord {
		return t.Kind == lexer.Word && t.Text == word
	}
	return t.Kind == lexer.Symbol && t.Text == terminal
}

// after returns what can follow a token, given what can follow the tokens before it; nothing if no query begins with them and it.
func after(sequences []string, t lexer.Token) []string {
	all := map[string]bool{}
	for _, sequence := range sequences {
		if first, rest, _ := strings.Cut(sequence, " "); fits(first, t) {
			for _, next := range expand(rest) {
				all[next] = true
			}
		}
	}
	return slices.Sorted(maps.Keys(all))
}

// formError returns the index of the first token that does not fit the grammar, or the number of tokens; the last token is the end.
func formError(tokens []lexer.Token) int {
	sequences := expand("query")
	for i, t := range tokens {
		if sequences = after(sequences, t); len(sequences) == 0 {
			return i
		}
	}
	return len(tokens)
}

// isText reports whether the token at an index of a list has a text, and is no string.
func isText(tokens []lexer.Token, i int, text string) bool {
	return i >= 0 && i < len(tokens) && tokens[i].Kind != lexer.Text && tokens[i].Kind != endOf && tokens[i].Text == text
}

// valueError returns the error other than ErrForm of the token at an index; up to this token, the tokens fit the grammar.
func valueError(tokens []lexer.Token, i int) api.Errno {
	switch tokens[i].Kind {
	case lexer.Number:
		lo, hi := 0, 1<<30
		switch {
		case isText(tokens, i-1, "@"):
			hi = 4096
		case isText(tokens, i-1, ","):
			lo, hi = 1, tokens[i-2].N
		case isText(tokens, i-1, "(") && isText(tokens, i-3, "."), isText(tokens, i-1, "(") && isText(tokens, i-2, "kth"):
			lo, hi = 1, 4096
		}
		if tokens[i].N < lo || tokens[i].N > hi {
			return api.ErrRange
		}
	case lexer.Word:
		return nameError(tokens, i)
	}
	return api.OK
}

// nameError returns the error of the word at an index, which can be a name in a list of matchers or of a by clause.
func nameError(tokens []lexer.Token, i int) api.Errno {
	commas, open := 0, i-1
	for open >= 0 && !slices.Contains([]string{"(", ")", "{", "}"}, symbolText(tokens[open])) {
		if symbolText(tokens[open]) == "," {
			commas++
		}
		open--
	}
	isClause := isText(tokens, open, "(") && isText(tokens, open-1, "by")
	if (isClause || isText(tokens, open, "{")) && commas >= 8 {
		return api.ErrLimit
	}
	if isClause && commas > 0 && tokens[i].Text <= tokens[i-2].Text {
		return api.ErrName
	}
	return api.OK
}

// symbolText returns the text of a symbol, and nothing for other tokens.
func symbolText(t lexer.Token) string {
	if t.Kind != lexer.Symbol {
		return ""
	}
	return t.Text
}

// expected returns the results of Parse by the words of P7.1.
func expected(s string) (api.Expr, int, api.Errno) {
	tokens, at, err := lexer.Tokens(s)
	if err != api.OK {
		return api.Expr{}, at, err
	}
	all := append(slices.Clone(tokens), lexer.Token{Kind: endOf, At: len(s)})
	wrong := formError(all)
	for i, t := range all[:wrong] {
		if err := valueError(all, i); err != api.OK {
			return api.Expr{}, t.At, err
		}
	}
	if wrong < len(all) {
		return api.Expr{}, all[wrong].At, api.ErrForm
	}
	e := treeOf(tokens)
	if levels(e) > 12 || size(e) > 200 {
		return api.Expr{}, len(s), api.ErrLimit
	}
	return e, 0, api.OK
}

// treeOf returns the tree of the tokens of a query. It cuts them at the operator that is applied last.
func treeOf(tokens []lexer.Token) api.Expr {
	for _, pair := range []string{"+-", "*/"} {
		nesting := 0
		for i := len(tokens) - 1; i >= 0; i-- {
			switch text := symbolText(tokens[i]); {
			case text == ")" || text == "}":
				nesting++
			case text == "(" || text == "{":
				nesting--
			case nesting == 0 && text != "" && strings.Contains(pair, text):
				return operation(slices.Index(operators, text), treeOf(tokens[:i]), treeOf(tokens[i+1:]))
			}
		}
	}
	switch first := tokens[0]; {
	case first.Kind == lexer.Number:
		return number(first.N, 1)
	case first.Kind == lexer.Symbol:
		return treeOf(tokens[1 : len(tokens)-1])
	case slices.Contains(aggregates, first.Text):
		return groupOf(tokens)
	}
	return selectionOf(tokens)
}

// groupOf returns the tree of the tokens of a group.
func groupOf(tokens []lexer.Token) api.Expr {
	open, nesting := len(tokens)-1, 1
	for nesting > 0 {
		open--
		switch symbolText(tokens[open]) {
		case ")":
			nesting++
		case "(":
			nesting--
		}
	}
	e := api.Expr{Kind: api.ExGroup, Fun: slices.Index(aggregates, tokens[0].Text)}
	e.Kids = []api.Expr{treeOf(tokens[open+1 : len(tokens)-1])}
	clause := false
	for _, t := range tokens[1:open] {
		switch {
		case t.Kind == lexer.Number:
			e.K = t.N
		case t.Kind == lexer.Word && clause:
			e.By = append(e.By, t.Text)
		case t.Kind == lexer.Word:
			clause = true
		}
	}
	return e
}

// selectionOf returns the tree of the tokens of a selection.
func selectionOf(tokens []lexer.Token) api.Expr {
	e := api.Expr{Kind: api.ExSelect, Name: tokens[0].Text}
	for i, t := range tokens {
		switch {
		case t.Kind == lexer.Text:
			kind := slices.Index(signs, tokens[i-1].Text)
			e.Matchers = append(e.Matchers, api.Matcher{Name: tokens[i-2].Text, Kind: kind, Value: t.Text})
		case isText(tokens, i-1, "."):
			e.Fun = slices.Index(functions, t.Text)
		case t.Kind == lexer.Number && isText(tokens, i-1, "("):
			e.Window = t.N
		case t.Kind == lexer.Number && isText(tokens, i-1, ","):
			e.K = t.N
		case t.Kind == lexer.Number && isText(tokens, i-1, "@"):
			e.Offset = t.N
		}
	}
	return e
}

// levels returns the depth of a tree by the words of the chapter.
func levels(e api.Expr) int {
	greatest := 0
	for _, kid := range e.Kids {
		greatest = max(greatest, levels(kid))
	}
	return 1 + greatest
}

// size returns the number of nodes of a tree.
func size(e api.Expr) int {
	n := 1
	for _, kid := range e.Kids {
		n += size(kid)
	}
	return n
}

// number returns the tree of a fraction.
func number(num, den int) api.Expr {
	return api.Expr{Kind: api.ExNum, Num: api.Frac{Num: num, Den: den}}
}

// series returns the tree of a selection that is only a name.
func series(name string) api.Expr {
	return api.Expr{Kind: api.ExSelect, Name: name}
}

// windowed returns the tree of a selection with a function.
func windowed(name string, fun, window, k, offset int) api.Expr {
	return api.Expr{Kind: api.ExSelect, Name: name, Fun: fun, Window: window, K: k, Offset: offset}
}

// matching returns the tree of a selection with matchers.
func matching(name string, matchers ...api.Matcher) api.Expr {
	return api.Expr{Kind: api.ExSelect, Name: name, Matchers: matchers}
}

// group returns the tree of a group.
func group(fun, k int, kid api.Expr, by ...string) api.Expr {
	return api.Expr{Kind: api.ExGroup, Fun: fun, K: k, By: by, Kids: []api.Expr{kid}}
}

// operation returns the tree of an operation.
func operation(fun int, first, second api.Expr) api.Expr {
	return api.Expr{Kind: api.ExBinary, Fun: fun, Kids: []api.Expr{first, second}}
}

// chain returns n equal expressions that are joined by an operation; it has n-1 levels more than one of them.
func chain(fun, n int, e api.Expr) api.Expr {
	all := e
	for range n - 1 {
		all = operation(fun, all, e)
	}
	return all
}

// show returns a text that tells any two trees apart, but not nil from empty slices.
func show(e api.Expr) string {
	return strings.ReplaceAll(fmt.Sprintf("%#v", e), "(nil)", "{}")
}
