package lexer_test

import (
	"fmt"
	"math/big"
	"math/rand"
	"regexp"
	"slices"
	"strconv"
	"strings"
	"testing"

	"intervalmon/api"
	"intervalmon/labels"
	"intervalmon/lexer"
)

// The words of the chapter as patterns of what a source begins with.
var (
	spaceForm  = regexp.MustCompile(`\A[\x09\x0a\x0d\x20]+`)
	wordForm   = regexp.MustCompile(`\A[a-z][a-z0-9_]*`)
	numberForm = regexp.MustCompile(`\A[0-9]+`)
	stringForm = regexp.MustCompile(`\A"[^"]*"`)
	symbolForm = regexp.MustCompile(`\A(?:\+|-|\*|/|\(|\)|\{|\}|,|\.|@|=|!=|\^=)`)
)

// The bytes of a label value are those from 33 to 126 without 34, 44, 92, 123 and 125.
var valueForm = regexp.MustCompile(`\A[\x21\x23-\x2b\x2d-\x5b\x5d-\x7a\x7c\x7e]*\z`)

// word returns a word at an offset.
func word(s string, at int) lexer.Token {
	return lexer.Token{Kind: lexer.Word, Text: s, At: at}
}

// number returns a number at an offset.
func number(s string, n, at int) lexer.Token {
	return lexer.Token{Kind: lexer.Number, Text: s, N: n, At: at}
}

// text returns a string, given without its quotes, at an offset.
func text(s string, at int) lexer.Token {
	return lexer.Token{Kind: lexer.Text, Text: s, At: at}
}

// symbol returns a symbol at an offset.
func symbol(s string, at int) lexer.Token {
	return lexer.Token{Kind: lexer.Symbol, Text: s, At: at}
}

// expected returns by the words of P6.1 and P6.2 the results of Tokens.
func expected(s string) ([]lexer.Token, int, api.Errno) {
	if len(s) > 2000 {
		return nil, 2000, api.ErrLimit
	}
	var list []lexer.Token
	at := 0
	for at < len(s) {
		rest := s[at:]
		if space := spaceForm.FindString(rest); space != "" {
			at += len(space)
			continue
		}
		t, size, err := expectedFirst(rest)
		if err != api.OK {
			return nil, at, err
		}
		t.At = at
		list = append(list, t)
		at += size
	}
	return list, 0, api.OK
}

// expectedFirst returns by the words of P6.2 the token at the beginning of s with its size, or its error.
func expectedFirst(s string) (lexer.Token, int, api.Errno) {
	none := lexer.Token{}
	if w := wordForm.FindString(s); w != "" {
		if len(w) > 16 {
			return none, 0, api.ErrLimit
		}
		return word(w, 0), len(w), api.OK
	}
	if d := numberForm.FindString(s); d != "" {
		n, _ := new(big.Int).SetString(d, 10)
		if n.Cmp(big.NewInt(1073741824)) > 0 {
			return none, 0, api.ErrRange
		}
		return number(d, int(n.Int64()), 0), len(d), api.OK
	}
	if q := stringForm.FindString(s); q != "" {
		contents := q[1 : len(q)-1]
		if !valueForm.MatchString(contents) {
			return none, 0, api.ErrForm
		}
		if len(contents) > 16 {
			return none, 0, api.ErrLimit
		}
		return text(contents, 0), len(q), api.OK
	}
	if y := symbolForm.FindString(s); y != "" {
		return symbol(y, 0), len(y), api.OK
	}
	return none, 0, api.ErrForm
}

// check compares the results of Tokens with those by the words of the chapter, and returns the error.
func check(t *testing.T, s string) api.Errno {
	t.Helper()
	got, at, err := lexer.Tokens(s)
	want, wantAt, wantErr := expected(s)
	if at != wantAt || err != wantErr || !slices.Equal(got, want) {
		t.Fatalf("Tokens(%q) is %v, %d, %d, want %v, %d, %d", s, got, at, err, want, wantAt, wantErr)
	}
	if err != api.OK && got != nil {
		t.Fatalf("Tokens(%q) returns tokens with the error %d", s, err)
	}
	checkCover(t, s, got, err)
	return err
}

// checkCover checks P6.3: what tokens leave of a source is white space.
func checkCover(t *testing.T, s string, tokens []lexer.Token, err api.Errno) {
	t.Helper()
	if err != api.OK {
		return
	}
	end := 0
	for i, k := range tokens {
		if i > 0 && k.At <= tokens[i-1].At || k.At < end {
			t.Fatalf("%q: the token %v is not behind the one before it", s, k)
		}
		written := k.Text
		if k.Kind == lexer.Text {
			written = `"` + k.Text + `"`
		}
		if written == "" || !strings.HasPrefix(s[k.At:], written) {
			t.Fatalf("%q: the token %v is not written there", s, k)
		}
		if gap := s[end:k.At]; gap != spaceForm.FindString(gap) {
			t.Fatalf("%q: %q before the token %v is not white space", s, gap, k)
		}
		end = k.At + len(written)
	}
	if gap := s[end:]; gap != spaceForm.FindString(gap) {
		t.Fatalf("%q: %q behind the last token is not white space", s, gap)
	}
}

// listsOf returns all lists of at most n elements of a pool.
func listsOf[T any](pool []T, n int) [][]T {
	lists, longest := [][]T{nil}, [][]T{nil}
	for range n {
		var longer [][]T
		for _, l := range longest {
			for _, e := range pool {
				longer = append(longer, append(slices.Clone(l), e))
			}
		}
		lists, longest = append(lists, longer...), longer
	}
	return lists
}

// pieces are parts of sources: tokens of every kind at their limits and beyond, parts of tokens, and white space.
var pieces = []string{
	"a", "z9", "_", "abcdefghijklmnop", "abcdefghijklmnopq", "A", "é",
	"0", "007", "1073741824", "1073741825", "9223372036854775808", "18446744073709551617",
	`"`, `""`, `"x"`, `"1234567890123456"`, `"12345678901234567"`, `"a b"`, `","`, `"é"`,
	"=", "!=", "^=", "!", "^", "+", "-", "*", "/", "(", ")", "{", "}", ",", ".", "@", ";", `\`, "<",
	" ", "\t", "\n", "\r", "\v", "\x00", "\xff", "\u00a0",
}

// P6.1: tokens worked out by hand.
func TestKnown(t *testing.T) {
	for _, c := range []struct {
		s    string
		want []lexer.Token
	}{
		{"", nil},
		{" \t\n\r ", nil},
		{"a", []lexer.Token{word("a", 0)}},
		{"  a", []lexer.Token{word("a", 2)}},
		{"\r\na\t", []lexer.Token{word("a", 2)}},
		{"a.kth(3, 2)@05", []lexer.Token{
			word("a", 0), symbol(".", 1), word("kth", 2), symbol("(", 5), number("3", 3, 6), symbol(",", 7),
			number("2", 2, 9), symbol(")", 10), symbol("@", 11), number("05", 5, 12),
		}},
		{`sum by (zone) (req{code^="5"}.rate(60)) / 2`, []lexer.Token{
			word("sum", 0), word("by", 4), symbol("(", 7), word("zone", 8), symbol(")", 12), symbol("(", 14), word("req", 15), symbol("{", 18),
			word("code", 19), symbol("^=", 23), text("5", 25), symbol("}", 28), symbol(".", 29), word("rate", 30), symbol("(", 34),
			number("60", 60, 35), symbol(")", 37), symbol(")", 38), symbol("/", 40), number("2", 2, 42),
		}},
		{"+-*/(){},.@=!=^=", []lexer.Token{
			symbol("+", 0), symbol("-", 1), symbol("*", 2), symbol("/", 3), symbol("(", 4), symbol(")", 5), symbol("{", 6), symbol("}", 7),
			symbol(",", 8), symbol(".", 9), symbol("@", 10), symbol("=", 11), symbol("!=", 12), symbol("^=", 14),
		}},
		// A symbol is no longer than it must be, and white space is never part of one.
		{"==", []lexer.Token{symbol("=", 0), symbol("=", 1)}},
		{"!==", []lexer.Token{symbol("!=", 0), symbol("=", 2)}},
		{"=!=", []lexer.Token{symbol("=", 0), symbol("!=", 1)}},
		{"^==^=", []lexer.Token{symbol("^=", 0), symbol("=", 2), symbol("^=", 3)}},
		// A token ends where the next one begins, even without white space between them.
		{"a_0z9", []lexer.Token{word("a_0z9", 0)}},
		{"a0 0a", []lexer.Token{word("a0", 0), number("0", 0, 3), word("a", 4)}},
		{"12ab_", []lexer.Token{number("12", 12, 0), word("ab_", 2)}},
		{`a"b"c`, []lexer.Token{word("a", 0), text("b", 1), word("c", 4)}},
		{`1"2"3`, []lexer.Token{number("1", 1, 0), text("2", 1), number("3", 3, 4)}},
		{`"""a"`, []lexer.Token{text("", 0), text("a", 2)}},
		{"a\nb", []lexer.Token{word("a", 0), word("b", 2)}},
		{"1 2", []lexer.Token{number("1", 1, 0), number("2", 2, 2)}},
		{"0xff", []lexer.Token{number("0", 0, 0), word("xff", 1)}},
		{"0b1", []lexer.Token{number("0", 0, 0), word("b1", 1)}},
		{"1.5", []lexer.Token{number("1", 1, 0), symbol(".", 1), number("5", 5, 2)}},
		{"-3", []lexer.Token{symbol("-", 0), number("3", 3, 1)}},
		// Strings contain what else would be tokens.
		{`"+-*/()"`, []lexer.Token{text("+-*/()", 0)}},
		{`".@=!=^="`, []lexer.Token{text(".@=!=^=", 0)}},
		{`"A;<~'[]|#$"`, []lexer.Token{text("A;<~'[]|#$", 0)}},
		{`"12"`, []lexer.Token{text("12", 0)}},
		// The limits.
		{"abcdefghijklmnop", []lexer.Token{word("abcdefghijklmnop", 0)}},
		{"a_0123456789_zzz-", []lexer.Token{word("a_0123456789_zzz", 0), symbol("-", 16)}},
		{`"1234567890123456"a`, []lexer.Token{text("1234567890123456", 0), word("a", 18)}},
		{"1073741824", []lexer.Token{number("1073741824", 1<<30, 0)}},
		{"0001073741824", []lexer.Token{number("0001073741824", 1<<30, 0)}},
		{"00000000000000000000000000000000000000000000000008", []lexer.Token{number("00000000000000000000000000000000000000000000000008", 8, 0)}},
	} {
		got, at, err := lexer.Tokens(c.s)
		if err != api.OK || at != 0 || !slices.Equal(got, c.want) {
			t.Errorf("Tokens(%q) is %v, %d, %d, want %v", c.s, got, at, err, c.want)
		}
		check(t, c.s)
	}
}

// P6.1: the kinds of tokens are the numbers in the order of the chapter.
func TestKinds(t *testing.T) {
	if kinds := [...]int{lexer.Word, lexer.Number, lexer.Text, lexer.Symbol}; kinds != [...]int{0, 1, 2, 3} {
		t.Errorf("the kinds are %v", kinds)
	}
}

// P6.2: errors worked out by hand.
func TestErrors(t *testing.T) {
	for _, c := range []struct {
		s   string
		at  int
		err api.Errno
	}{
		// No token begins there.
		{"a!b", 1, api.ErrForm},
		{"!", 0, api.ErrForm},
		{"^", 0, api.ErrForm},
		{"a ! =", 2, api.ErrForm},
		{"a ^ =", 2, api.ErrForm},
		{"!!=", 0, api.ErrForm},
		{"^^=", 0, api.ErrForm},
		{"=!", 1, api.ErrForm},
		{"A", 0, api.ErrForm},
		{"aB", 1, api.ErrForm},
		{"_a", 0, api.ErrForm},
		{"1_", 1, api.ErrForm},
		{"  é", 2, api.ErrForm},
		{"aé", 1, api.ErrForm},
		{"a\xff", 1, api.ErrForm},
		{"a;b", 1, api.ErrForm},
		{"a\vb", 1, api.ErrForm},
		{"a\fb", 1, api.ErrForm},
		{"a\x00", 1, api.ErrForm},
		{"a\u0085b", 1, api.ErrForm},
		{"a\u00a0b", 1, api.ErrForm},
		{"a\u2003b", 1, api.ErrForm},
		{"\ufeffa", 0, api.ErrForm},
		{"٣", 0, api.ErrForm},
		{"'a'", 0, api.ErrForm},
		{"a<b", 1, api.ErrForm},
		{"[", 0, api.ErrForm},
		// Words.
		{"abcdefghijklmnopq", 0, api.ErrLimit},
		{"a+abcdefghijklmno_9", 2, api.ErrLimit},
		{strings.Repeat("a", 2000), 0, api.ErrLimit},
		// Numbers.
		{"1073741825", 0, api.ErrRange},
		{"a@00001073741825", 2, api.ErrRange},
		{"2147483648", 0, api.ErrRange},
		{"4294967297", 0, api.ErrRange},
		{"9223372036854775807", 0, api.ErrRange},
		{"9223372036854775808", 0, api.ErrRange},
		{"18446744073709551616", 0, api.ErrRange},
		{"18446744073709551617", 0, api.ErrRange},
		{"1" + strings.Repeat("0", 1999), 0, api.ErrRange},
		{strings.Repeat("9", 2000), 0, api.ErrRange},
		{"12345678901234567", 0, api.ErrRange},
		// Strings.
		{`x="a`, 2, api.ErrForm},
		{`"`, 0, api.ErrForm},
		{`"""`, 2, api.ErrForm},
		{`a"b"c"`, 5, api.ErrForm},
		{`"a b"`, 0, api.ErrForm},
		{"\"a\n\"", 0, api.ErrForm},
		{`"a,b"`, 0, api.ErrForm},
		{`"{"`, 0, api.ErrForm},
		{`"}"`, 0, api.ErrForm},
		{`"\"`, 0, api.ErrForm},
		{`"\""`, 0, api.ErrForm},
		{`"é"`, 0, api.ErrForm},
		{"\"\xff\"", 0, api.ErrForm},
		{"\"\x7f\"", 0, api.ErrForm},
		{"\"\ufffd\"", 0, api.ErrForm},
		{`"12345678901234567"`, 0, api.ErrLimit},
		{`  ="12345678901234567"`, 3, api.ErrLimit},
		// The errors of a string in their order.
		{`"12345678901234567`, 0, api.ErrForm},
		{`"1234567890123456,"`, 0, api.ErrForm},
		{`"12345678901234567é"`, 0, api.ErrForm},
		{`",12345678901234567"`, 0, api.ErrForm},
		{`"a,b`, 0, api.ErrForm},
		// The first token with an error.
		{"abcdefghijklmnopq 1073741825", 0, api.ErrLimit},
		{"1073741825 abcdefghijklmnopq", 0, api.ErrRange},
		{"; abcdefghijklmnopq", 0, api.ErrForm},
		{"abcdefghijklmnopq;", 0, api.ErrLimit},
		{`a 1073741825 "12345678901234567" ;`, 2, api.ErrRange},
		{`"12345678901234567" "`, 0, api.ErrLimit},
		{`" 1073741825`, 0, api.ErrForm},
		{`a b c ! "`, 6, api.ErrForm},
	} {
		got, at, err := lexer.Tokens(c.s)
		if err != c.err || at != c.at || got != nil {
			t.Errorf("Tokens(%q) is %v, %d, %d, want %d, %d", c.s, got, at, err, c.at, c.err)
		}
		check(t, c.s)
	}
}

// P6.2: the length of a source comes before all its tokens.
func TestLength(t *testing.T) {
	for _, begin := range []string{"a ", ";", `"`, " ", "1073741825 ", "abcdefghijklmnopq ", "12 "} {
		for _, filler := range []string{" ", "1", "a", "+", "\xff", `""`, "a "} {
			long := begin + strings.Repeat(filler, 3000)
			for _, size := range []int{1998, 1999, 2000, 2001, 2002, 3000} {
				check(t, long[:size])
				_, at, err := lexer.Tokens(long[:size])
				if size > 2000 && (err != api.ErrLimit || at != 2000) {
					t.Errorf("%d bytes that begin with %q lead to %d, %d", size, begin+filler, at, err)
				}
			}
		}
	}
	for _, c := range []struct {
		s    string
		want int
	}{
		{strings.Repeat("+", 2000), 2000},
		{strings.Repeat("a ", 1000), 1000},
		{strings.Repeat(`""`, 1000), 1000},
		{strings.Repeat(" ", 2000), 0},
		{strings.Repeat("0", 1999) + "7", 1},
	} {
		if got, _, err := lexer.Tokens(c.s); err != api.OK || len(got) != c.want {
			t.Errorf("%.20q and so on has %d tokens, %d", c.s, len(got), err)
		}
	}
	if got, at, err := lexer.Tokens(strings.Repeat("a ", 1<<20)); got != nil || at != 2000 || err != api.ErrLimit {
		t.Errorf("a long source leads to %d tokens, %d, %d", len(got), at, err)
	}
}

// P6.1, P6.2: every byte before, in and behind every kind of token.
func TestBytes(t *testing.T) {
	for c := range 256 {
		one := string([]byte{byte(c)})
		for _, s := range []string{"", "a", "12", `"x"`, "=", "!", "^", "!=", `"`, `"x`, " ", "abcdefghijklmnop", "1073741824", `"1234567890123456`} {
			check(t, one+s)
			check(t, s+one)
			check(t, s+one+s)
			check(t, s+one+`"`)
			check(t, one+one+s)
		}
		for size := range 18 {
			for place := range size + 1 {
				b := strings.Repeat("a", place) + one + strings.Repeat("a", size-place)
				check(t, b)
				check(t, `"`+b+`"`)
			}
		}
	}
}

// P6.1: no character beyond ASCII is white space or part of a token.
func TestCharacters(t *testing.T) {
	for c := rune(128); c <= 0x10FFFF; c++ {
		one := string(c)
		for want, sources := range [][]string{{one, one + "a", `"` + one + `"`}, {"a" + one, "1" + one, "=" + one}} {
			for _, s := range sources {
				if got, at, err := lexer.Tokens(s); err != api.ErrForm || at != want || got != nil {
					t.Fatalf("Tokens(%q) is %v, %d, %d", s, got, at, err)
				}
			}
		}
	}
}

// P6.1, P6.2: every source of up to 5 of the bytes that tell tokens apart.
func TestShort(t *testing.T) {
	counts := map[api.Errno]int{}
	for _, b := range listsOf([]byte("az09_\"!^=, \nA\xc3"), 5) {
		counts[check(t, string(b))]++
	}
	if counts[api.OK] < 10000 || counts[api.ErrForm] < 10000 || len(counts) != 2 {
		t.Errorf("the numbers of sources by errors are %v", counts)
	}
}

// P6.1, P6.2: every source of up to 3 pieces.
func TestPieces(t *testing.T) {
	counts := map[api.Errno]int{}
	for _, l := range listsOf(pieces, 3) {
		counts[check(t, strings.Join(l, ""))]++
	}
	for _, err := range []api.Errno{api.OK, api.ErrForm, api.ErrLimit, api.ErrRange} {
		if counts[err] < 1000 {
			t.Errorf("only %d sources lead to %d", counts[err], err)
		}
	}
}

// randomSource returns a source of at most n pieces, most of which have no error.
func randomSource(r *rand.Rand, n int) string {
	var parts []string
	for range r.Intn(n + 1) {
		switch r.Intn(12) {
		case 0:
			parts = append(parts, pieces[r.Intn(len(pieces))])
		case 1, 2, 3:
			parts = append(parts, randomText(r, "abz", 1)+randomText(r, "abz_019", r.Intn(16))+" ")
		case 4, 5:
			parts = append(parts, randomText(r, "0", r.Intn(4))+strconv.Itoa(r.Intn(1<<30+1))+"\n")
		case 6, 7:
			parts = append(parts, `"`+randomText(r, `!#+-=az[]|~:/0`, r.Intn(17))+`"`)
		default:
			parts = append(parts, []string{"+", "-", "*", "/", "(", ")", "{", "}", ",", ".", "@", "=", "!=", "^=", " ", "\r"}[r.Intn(16)])
		}
	}
	return strings.Join(parts, "")
}

// randomText returns n bytes of an alphabet.
func randomText(r *rand.Rand, alphabet string, n int) string {
	b := make([]byte, n)
	for i := range b {
		b[i] = alphabet[r.Intn(len(alphabet))]
	}
	return string(b)
}

// P6.1, P6.2: random sources up to beyond the greatest length.
func TestRandom(t *testing.T) {
	r := rand.New(rand.NewSource(1))
	counts := map[api.Errno]int{}
	for range 20000 {
		counts[check(t, randomSource(r, 1<<r.Intn(9)))]++
	}
	for _, err := range []api.Errno{api.OK, api.ErrForm, api.ErrLimit, api.ErrRange} {
		if counts[err] < 100 {
			t.Errorf("only %d sources lead to %d", counts[err], err)
		}
	}
}

// P6.1, P6.2: numbers around the greatest one and around the sizes of machine words, with leading zeros.
func TestNumbers(t *testing.T) {
	for shift := range 70 {
		for d := int64(-3); d <= 3; d++ {
			n := new(big.Int).Lsh(big.NewInt(1), uint(shift))
			if n.Add(n, big.NewInt(d)); n.Sign() < 0 {
				continue
			}
			for _, zeros := range []int{0, 1, 20, 1900} {
				digits := strings.Repeat("0", zeros) + n.String()
				check(t, digits)
				got, _, err := lexer.Tokens("a@" + digits)
				if small := n.Cmp(big.NewInt(1<<30)) <= 0; small != (err == api.OK) {
					t.Errorf("%q leads to %d", digits, err)
				} else if small && got[2] != number(digits, int(n.Int64()), 2) {
					t.Errorf("%q is %v", digits, got)
				}
			}
		}
	}
}

// P6.4: the tokens of two sources with white space between them.
func TestConcatenation(t *testing.T) {
	r := rand.New(rand.NewSource(2))
	sources := []string{"", `"`, `"a`, `x="a`, "!", "^", "=", "abcdefghijklmnop", "1073741824", `"12345678901234567`, "  "}
	for _, p := range listsOf(pieces, 1) {
		sources = append(sources, strings.Join(p, ""))
	}
	for range 300 {
		sources = append(sources, randomSource(r, 6))
	}
	good, bad := 0, 0
	for _, a := range sources {
		for _, b := range sources {
			space := "\t\n\r "[r.Intn(4):][:1]
			if checkBoth(t, a, b, space) == api.OK {
				good++
			} else {
				bad++
			}
		}
	}
	if good < 10000 || bad < 10000 {
		t.Errorf("only %d pairs without and %d with an error", good, bad)
	}
	checkBoth(t, strings.Repeat("+", 1000), strings.Repeat("0", 999), " ")
	checkBoth(t, strings.Repeat("a ", 990)+`"`, strings.Repeat("+", 18), " ")
	checkBoth(t, strings.Repeat(" ", 1999), "", "\n")
	checkBoth(t, "", strings.Repeat(`"" `, 600), "\n")
}

// checkBoth checks P6.4 for two sources, and returns the error of their concatenation.
func checkBoth(t *testing.T, a, b, space string) api.Errno {
	t.Helper()
	first, firstAt, firstErr := lexer.Tokens(a)
	second, secondAt, secondErr := lexer.Tokens(b)
	got, at, err := lexer.Tokens(a + space + b)
	shift := len(a) + 1
	switch {
	case len(a)+len(b) >= 2000:
		t.Fatal("the sources are too long")
	case firstErr != api.OK:
		if at != firstAt || err != firstErr {
			t.Fatalf("%q leads to %d, %d, but before %q to %d, %d", a, firstAt, firstErr, b, at, err)
		}
	case secondErr != api.OK:
		if at != secondAt+shift || err != secondErr {
			t.Fatalf("%q leads to %d, %d, but behind %q to %d, %d", b, secondAt, secondErr, a, at, err)
		}
	default:
		for _, k := range second {
			k.At += shift
			first = append(first, k)
		}
		if err != api.OK || !slices.Equal(got, first) {
			t.Fatalf("%q and %q: %v, %d, %d, want %v", a, b, got, at, err, first)
		}
	}
	return err
}

// P6.5: names are what is a single word, and values what is a single string when in quotes.
func TestNamesAndValues(t *testing.T) {
	var all []string
	for _, b := range listsOf([]byte("az0_9\"A=, \xe9"), 4) {
		all = append(all, string(b))
	}
	for _, l := range listsOf(pieces, 2) {
		all = append(all, strings.Join(l, ""))
	}
	for c := range 256 {
		for size := range 18 {
			for _, place := range []int{0, size / 2, size} {
				all = append(all, strings.Repeat("a", place)+string([]byte{byte(c)})+strings.Repeat("a", size-place))
			}
		}
	}
	names, values := 0, 0
	for _, s := range all {
		isName, isValue := is(s, lexer.Word, s), is(`"`+s+`"`, lexer.Text, s)
		if isName != labels.Name(s) || isValue != labels.Value(s) {
			t.Fatalf("%q: a single word is %t, a single string is %t", s, isName, isValue)
		}
		if isName {
			names++
		}
		if isValue {
			values++
		}
	}
	if names < 500 || values < 1000 || values > len(all)-1000 {
		t.Errorf("%d of %d are names, %d are values", names, len(all), values)
	}
}

// is reports whether Tokens returns a single token with a kind and a text.
func is(source string, kind int, text string) bool {
	got, _, err := lexer.Tokens(source)
	return err == api.OK && len(got) == 1 && got[0].Kind == kind && got[0].Text == text
}

// R4, R5: two calls return the same tokens in memory of their own.
func TestMemory(t *testing.T) {
	const s = `a{b="c"}.least(5)@7 + 1`
	first, _, _ := lexer.Tokens(s)
	before := fmt.Sprint(first)
	second, _, _ := lexer.Tokens(s)
	if fmt.Sprint(second) != before {
		t.Errorf("the tokens are %v, and then %v", first, second)
	}
	for i := range second {
		second[i] = lexer.Token{}
	}
	_ = append(second, lexer.Token{})
	if third, _, _ := lexer.Tokens(s); fmt.Sprint(first) != before || fmt.Sprint(third) != before {
		t.Errorf("the tokens changed to %v and %v", first, third)
	}
}
