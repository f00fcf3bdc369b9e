package labels_test

import (
	"fmt"
	"math"
	"math/rand"
	"regexp"
	"slices"
	"strings"
	"testing"

	"intervalmon/api"
	"intervalmon/labels"
)

// The words of the chapter as patterns; the bytes of a value are those from 33 to 126 without 34, 44, 92, 123 and 125.
const (
	namePattern  = `[a-z][a-z0-9_]{0,15}`
	valuePattern = `[\x21\x23-\x2b\x2d-\x5b\x5d-\x7a\x7c\x7e]`
	elementText  = namePattern + `="` + valuePattern + `{1,16}"`
)

var (
	nameForm  = regexp.MustCompile(`\A` + namePattern + `\z`)
	valueForm = regexp.MustCompile(`\A` + valuePattern + `{0,16}\z`)
	setForm   = regexp.MustCompile(`\A\{(` + elementText + `(,` + elementText + `){0,7})?\}\z`)
)

// of returns the list of labels with names and values in turn.
func of(parts ...string) []api.Label {
	var l []api.Label
	for i := 0; i < len(parts); i += 2 {
		l = append(l, api.Label{Name: parts[i], Value: parts[i+1]})
	}
	return l
}

// flat returns the names and values of a list in turn.
func flat(l []api.Label) []string {
	var parts []string
	for _, e := range l {
		parts = append(parts, e.Name, e.Value)
	}
	return parts
}

// is returns a matcher.
func is(name string, kind int, value string) api.Matcher {
	return api.Matcher{Name: name, Kind: kind, Value: value}
}

// isSet reports by the words of the chapter whether l is a label set.
func isSet(l []api.Label) bool {
	for i, e := range l {
		if !nameForm.MatchString(e.Name) || e.Value == "" || !valueForm.MatchString(e.Value) || i > 0 && l[i-1].Name >= e.Name {
			return false
		}
	}
	return len(l) <= 8
}

// numbered returns a list of n labels with different names, the last name first.
func numbered(n int) []api.Label {
	var l []api.Label
	for i := range n {
		l = append(l, api.Label{Name: fmt.Sprintf("n%02d", n-i), Value: fmt.Sprint(i)})
	}
	return l
}

// listsOf returns all lists of at most n elements of a pool.
func listsOf[T any](pool []T, n int) [][]T {
	lists, longest := [][]T{nil}, [][]T{nil}
	for range n {
		var longer [][]T
		for _, l := range longest {
			for _, e := range pool {
				longer = append(longer, append(slices.Clone(l), e))
			}
		}
		lists, longest = append(lists, longer...), longer
	}
	return lists
}

// mixed are labels of every kind: valid ones, some with equal names, and invalid ones for every reason.
var mixed = of("a", "x", "a", "y", "b", "x", "a_1", "~", "", "x", "B", "x", "a", "", "c", "a,b", "a", "é", "", "", "abcdefghijklmnopq", "x", "d", "12345678901234567")

// randomSet returns a label set of 0 to 8 labels.
func randomSet(r *rand.Rand) []api.Label {
	var l []api.Label
	for range r.Intn(12) {
		e := api.Label{Name: randomText(r, "abz", 1) + randomText(r, "abz_019", r.Intn(16)), Value: randomText(r, `!#+-=az[]|~:/0`, 1+r.Intn(16))}
		l = append(l, e)
	}
	slices.SortFunc(l, func(x, y api.Label) int { return strings.Compare(x.Name, y.Name) })
	l = slices.CompactFunc(l, func(x, y api.Label) bool { return x.Name == y.Name })
	return l[:min(len(l), 8)]
}

// randomText returns n bytes of an alphabet.
func randomText(r *rand.Rand, alphabet string, n int) string {
	b := make([]byte, n)
	for i := range b {
		b[i] = alphabet[r.Intn(len(alphabet))]
	}
	return string(b)
}

// P5.1: values worked out by hand.
func TestNameKnown(t *testing.T) {
	for _, c := range []struct {
		s    string
		want bool
	}{
		{"a", true}, {"z", true}, {"cpu", true}, {"a_", true}, {"a0", true}, {"z9_z", true}, {"a__b", true},
		{"abcdefghijklmnop", true}, {"a_0123456789_zzz", true},
		{"", false}, {"abcdefghijklmnopq", false}, {strings.Repeat("a", 1000), false},
		{"_", false}, {"_a", false}, {"1", false}, {"1a", false}, {"A", false}, {"aB", false}, {"Zz", false},
		{"a-b", false}, {"a b", false}, {"a.b", false}, {" a", false}, {"a ", false}, {"a\n", false}, {"a\x00", false}, {"\x00", false},
		{"é", false}, {"aé", false}, {"a\xff", false}, {"\xe1", false}, {"\xe1a", false},
		// The lowest bytes of these characters are those of letters, digits and the underscore.
		{"š", false}, {"ašb", false}, {"aı", false}, {"aş", false},
	} {
		if got := labels.Name(c.s); got != c.want {
			t.Errorf("Name(%q) is %t", c.s, got)
		}
	}
}

// P5.1: values worked out by hand.
func TestValueKnown(t *testing.T) {
	for _, c := range []struct {
		s    string
		want bool
	}{
		{"", true}, {"a", true}, {"!", true}, {"~", true}, {"A-Z", true}, {"=", true}, {"[x|y]", true}, {"#+-", true}, {"'", true},
		{"1234567890123456", true}, {"12345678901234567", false}, {strings.Repeat("a", 1000), false},
		{" ", false}, {"a b", false}, {"\x7f", false}, {"\x00", false}, {"a\n", false}, {"\t", false},
		{`"`, false}, {`\`, false}, {",", false}, {"{", false}, {"}", false}, {"a,", false}, {`"a`, false}, {"a}", false}, {`a\b`, false}, {"{a", false},
		{"é", false}, {"aé", false}, {"\xff", false}, {"a\x80", false}, {"\uFFFD", false}, {"š", false},
	} {
		if got := labels.Value(c.s); got != c.want {
			t.Errorf("Value(%q) is %t", c.s, got)
		}
	}
}

// P5.1, P5.4: every byte at every place of strings of all lengths around the limit, alone and in texts.
func TestBytes(t *testing.T) {
	for size := 1; size <= 18; size++ {
		for place := range size {
			for c := range 256 {
				b := []byte(strings.Repeat("a", size))
				b[place] = byte(c)
				checkString(t, string(b))
			}
		}
	}
}

// checkString checks whether a string that is not empty is a name and a value, and the texts of labels with it.
func checkString(t *testing.T, s string) {
	t.Helper()
	isName, isValue := nameForm.MatchString(s), valueForm.MatchString(s)
	if labels.Name(s) != isName || labels.Value(s) != isValue {
		t.Errorf("%q: Name is %t, Value is %t", s, labels.Name(s), labels.Value(s))
	}
	if l, err := labels.Parse(`{` + s + `="x"}`); (err == api.OK) != isName || isName && !slices.Equal(l, of(s, "x")) {
		t.Errorf("with the name %q: %q, %d", s, l, err)
	}
	if l, err := labels.Parse(`{x="` + s + `"}`); (err == api.OK) != isValue || isValue && !slices.Equal(l, of("x", s)) {
		t.Errorf("with the value %q: %q, %d", s, l, err)
	}
}

// P5.1: no character beyond ASCII is in a name or in a value.
func TestCharacters(t *testing.T) {
	for c := rune(128); c <= 0x10FFFF; c++ {
		s := string(c)
		if labels.Name(s) || labels.Name("a"+s) || labels.Value(s) || labels.Value("a"+s) {
			t.Errorf("a name or a value with %q", s)
		}
	}
}

// P5.1: matchers with all combinations of names, kinds and values.
func TestValidMatcher(t *testing.T) {
	for _, name := range []string{"a", "abcdefghijklmnop", "", "A", "a-", "abcdefghijklmnopq"} {
		for _, kind := range []int{api.MatchEqual, api.MatchNot, api.MatchPrefix, -1, 3, 4, math.MinInt, math.MaxInt} {
			for _, value := range []string{"", "x", "1234567890123456", "12345678901234567", ",", " ", "é"} {
				want := nameForm.MatchString(name) && valueForm.MatchString(value) && (kind == 0 || kind == 1 || kind == 2)
				if got := labels.ValidMatcher(is(name, kind, value)); got != want {
					t.Errorf("ValidMatcher(%q, %d, %q) is %t", name, kind, value, got)
				}
			}
		}
	}
	if !labels.ValidMatcher(is("a", api.MatchEqual, "")) || labels.ValidMatcher(api.Matcher{}) {
		t.Error("an empty value, or an empty matcher")
	}
}

// P5.2: values worked out by hand.
func TestNewKnown(t *testing.T) {
	for _, c := range []struct {
		l    []api.Label
		want []api.Label
		err  api.Errno
	}{
		{nil, nil, api.OK},
		{[]api.Label{}, nil, api.OK},
		{of("b", "y", "a", "x"), of("a", "x", "b", "y"), api.OK},
		{of("a", "x", "b", "y"), of("a", "x", "b", "y"), api.OK},
		{of("a", "z", "b", "y", "c", "x"), of("a", "z", "b", "y", "c", "x"), api.OK},
		{of("ab", "1", "a_", "2", "a", "3", "a0", "4"), of("a", "3", "a0", "4", "a_", "2", "ab", "1"), api.OK},
		{numbered(8), of("n01", "7", "n02", "6", "n03", "5", "n04", "4", "n05", "3", "n06", "2", "n07", "1", "n08", "0"), api.OK},
		{of("a", "x", "a", "y"), nil, api.ErrTwice},
		{of("a", "x", "a", "x"), nil, api.ErrTwice},
		{of("a", "x", "b", "x", "a", "y"), nil, api.ErrTwice},
		{of("a", ""), nil, api.ErrArg},
		{of("a", ","), nil, api.ErrArg},
		{of("a", "12345678901234567"), nil, api.ErrArg},
		{of("", "x"), nil, api.ErrName},
		{of("A", "x"), nil, api.ErrName},
		{of("abcdefghijklmnopq", "x"), nil, api.ErrName},
		// The errors of one element in their order, and the first element with an error.
		{of("A", ""), nil, api.ErrName},
		{of("a", "x", "a", ""), nil, api.ErrArg},
		{of("", "x", "", "x"), nil, api.ErrName},
		{of("a", "", "A", "x"), nil, api.ErrArg},
		{of("A", "x", "a", ""), nil, api.ErrName},
		{of("a", "x", "a", "y", "A", "x"), nil, api.ErrTwice},
		{of("a", "x", "A", "x", "a", "y"), nil, api.ErrName},
		{of("b", "x", "a", "", "b", "x"), nil, api.ErrArg},
		// The number of elements comes before all of them.
		{numbered(9), nil, api.ErrLimit},
		{append(of("A", ""), numbered(8)...), nil, api.ErrLimit},
		{append(numbered(8), of("n01", "x")...), nil, api.ErrLimit},
		{append(numbered(7), of("n01", "x")...), nil, api.ErrTwice},
		{append(numbered(7), of("a", "")...), nil, api.ErrArg},
		{numbered(90), nil, api.ErrLimit},
	} {
		got, err := labels.New(c.l)
		if err != c.err || !slices.Equal(got, c.want) {
			t.Errorf("New(%q) is %q, %d, want %q, %d", c.l, got, err, c.want, c.err)
		}
		if c.want == nil && len(got) != 0 {
			t.Errorf("New(%q) returns elements with an error", c.l)
		}
	}
}

// errorOf returns by the words of P5.2 the error of New.
func errorOf(l []api.Label) api.Errno {
	if len(l) > 8 {
		return api.ErrLimit
	}
	seen := map[string]bool{}
	for _, e := range l {
		switch {
		case !nameForm.MatchString(e.Name):
			return api.ErrName
		case e.Value == "" || !valueForm.MatchString(e.Value):
			return api.ErrArg
		case seen[e.Name]:
			return api.ErrTwice
		}
		seen[e.Name] = true
	}
	return api.OK
}

// P5.2: New and Valid on all short lists, and on longer ones.
func TestNew(t *testing.T) {
	lists := listsOf(mixed, 3)
	r := rand.New(rand.NewSource(1))
	for range 5000 {
		l := randomSet(r)
		for range r.Intn(3) {
			l = slices.Insert(l, r.Intn(len(l)+1), mixed[r.Intn(len(mixed))])
		}
		lists = append(lists, l)
	}
	sets := 0
	for _, l := range lists {
		got, err := labels.New(l)
		if want := errorOf(l); err != want || err != api.OK && got != nil {
			t.Fatalf("New(%q) is %q, %d, want %d", l, got, err, want)
		}
		if labels.Valid(l) != isSet(l) {
			t.Fatalf("Valid(%q) is %t", l, labels.Valid(l))
		}
		if err != api.OK {
			continue
		}
		sets++
		if !isSet(got) || !labels.Valid(got) || len(got) != len(l) {
			t.Fatalf("New(%q) is %q", l, got)
		}
		for _, e := range l {
			if !slices.Contains(got, e) {
				t.Fatalf("New(%q) is %q, without %q", l, got, e)
			}
		}
	}
	if sets < 1000 || sets > len(lists)-1000 {
		t.Errorf("%d of %d lists have sets", sets, len(lists))
	}
}

// P5.2: values of Valid worked out by hand.
func TestValidKnown(t *testing.T) {
	eight, _ := labels.New(numbered(8))
	nine := append(slices.Clone(eight), of("n09", "x")...)
	for _, c := range []struct {
		l    []api.Label
		want bool
	}{
		{nil, true}, {[]api.Label{}, true}, {of("a", "x"), true}, {of("a", "x", "b", "x"), true}, {of("a", "y", "a0", "x"), true}, {eight, true},
		{nine, false}, {numbered(2), false}, {of("b", "x", "a", "x"), false}, {of("a", "x", "a", "x"), false}, {of("a", "x", "a", "y"), false},
		{of("a", ""), false}, {of("", "x"), false}, {of("A", "x"), false}, {of("a", "{"), false}, {of("a", "x", "b", ""), false}, {of("a", "x", "B", "y"), false},
		{of("a", "x", "c", "x", "b", "x"), false},
	} {
		if got := labels.Valid(c.l); got != c.want {
			t.Errorf("Valid(%q) is %t", c.l, got)
		}
	}
}

// P5.9: New returns the same label set for every order of the elements.
func TestNewOrders(t *testing.T) {
	want := of("a", "3", "a0", "3", "a_", "1", "ab", "2", "b", "0")
	orders := 0
	for _, l := range listsOf(want, len(want)) {
		if len(l) < len(want) || errorOf(l) != api.OK {
			continue
		}
		orders++
		if got, err := labels.New(l); err != api.OK || !slices.Equal(got, want) {
			t.Errorf("New(%q) is %q, %d", l, got, err)
		}
	}
	if orders != 120 {
		t.Errorf("%d orders", orders)
	}
	r := rand.New(rand.NewSource(2))
	for range 1000 {
		set := randomSet(r)
		l := slices.Clone(set)
		r.Shuffle(len(l), func(i, j int) { l[i], l[j] = l[j], l[i] })
		if got, err := labels.New(l); err != api.OK || !slices.Equal(got, set) {
			t.Errorf("New(%q) is %q, %d", l, got, err)
		}
	}
}

// P5.3: the first element with the name, in any list.
func TestGet(t *testing.T) {
	for _, c := range []struct {
		l    []api.Label
		name string
		want string
	}{
		{of("a", "x", "b", "y"), "a", "x"},
		{of("a", "x", "b", "y"), "b", "y"},
		{of("a", "x", "b", "y"), "c", ""},
		{of("a", "x", "b", "y"), "", ""},
		{of("a", "x"), "x", ""},
		{of("ab", "x"), "a", ""},
		{of("a", "x"), "ab", ""},
		{of("b", "y", "a", "x", "b", "z"), "b", "y"},
		{of("a", "", "a", "x"), "a", ""},
		{of("", "x"), "", "x"},
		{of("É", "é,{"), "É", "é,{"},
		{numbered(20), "n01", "19"},
		{nil, "a", ""},
		{nil, "", ""},
	} {
		if got := labels.Get(c.l, c.name); got != c.want {
			t.Errorf("Get(%q, %q) is %q, want %q", c.l, c.name, got, c.want)
		}
	}
	for _, l := range listsOf(mixed, 3) {
		for _, e := range mixed {
			want := ""
			if i := slices.IndexFunc(l, func(x api.Label) bool { return x.Name == e.Name }); i >= 0 {
				want = l[i].Value
			}
			if got := labels.Get(l, e.Name); got != want {
				t.Fatalf("Get(%q, %q) is %q, want %q", l, e.Name, got, want)
			}
		}
	}
}

// P5.4: texts of any lists.
func TestText(t *testing.T) {
	for _, c := range []struct {
		l    []api.Label
		want string
	}{
		{nil, `{}`},
		{[]api.Label{}, `{}`},
		{of("a", "x"), `{a="x"}`},
		{of("a", "x", "b", "y"), `{a="x",b="y"}`},
		{of("b", "y", "a", "x"), `{b="y",a="x"}`},
		{of("a", "x", "a", "x", "a", ""), `{a="x",a="x",a=""}`},
		{of("", ""), `{=""}`},
		{of("", "", "", ""), `{="",=""}`},
		{of(`a"`, `"b\`), `{a"=""b\"}`},
		{of("É", "\xff,{}"), "{É=\"\xff,{}\"}"},
		{numbered(9), `{n09="0",n08="1",n07="2",n06="3",n05="4",n04="5",n03="6",n02="7",n01="8"}`},
	} {
		if got := labels.Text(c.l); got != c.want {
			t.Errorf("Text(%q) is %q, want %q", c.l, got, c.want)
		}
	}
}

// P5.4: values worked out by hand.
func TestParseKnown(t *testing.T) {
	for _, c := range []struct {
		s    string
		want []api.Label
	}{
		{`{}`, nil},
		{`{a="x"}`, of("a", "x")},
		{`{a="x",b="y"}`, of("a", "x", "b", "y")},
		{`{a="="}`, of("a", "=")},
		{`{a="x=",b="=y="}`, of("a", "x=", "b", "=y=")},
		{`{a_0="~!'()[]|",ab="1234567890123456"}`, of("a_0", "~!'()[]|", "ab", "1234567890123456")},
		{`{abcdefghijklmnop="x"}`, of("abcdefghijklmnop", "x")},
		{`{a="1",b="2",c="3",d="4",e="5",f="6",g="7",h="8"}`, of("a", "1", "b", "2", "c", "3", "d", "4", "e", "5", "f", "6", "g", "7", "h", "8")},
	} {
		if got, err := labels.Parse(c.s); err != api.OK || !slices.Equal(got, c.want) {
			t.Errorf("Parse(%q) is %q, %d, want %q", c.s, got, err, c.want)
		}
	}
}

// P5.4: strings that are no texts of label sets.
func TestParseForm(t *testing.T) {
	for _, s := range []string{
		"", "{", "}", "}{", "{{}}", "{}}", "{{}", "{}{}", " {}", "{} ", "{ }", "{}\n", "{\x00}", "()", "a",
		`a="x"`, `{a="x"`, `a="x"}`, `{{a="x"}}`, `{a="x"}}`, `{{a="x"}`, `{a="x"}{`, `}a="x"{`, `{a="x"};`,
		`{a}`, `{a=}`, `{a="}`, `{a=""}`, `{a"x"}`, `{a=x}`, `{a="x}`, `{a=x"}`, `{a='x'}`, `{a=="x"}`, `{a="x""}`, `{a=""x"}`, `{a="x"x}`, `{a= "x"}`, `{a ="x"}`, `{ a="x"}`, `{a="x" }`,
		`{="x"}`, `{="",=""}`, `{""}`, `{"}`, `{a="x",}`, `{,a="x"}`, `{,}`, `{,,}`, `{a="x",,b="y"}`, `{a="x", b="y"}`, `{a="x";b="y"}`, `{a="x"b="y"}`, `{a="x}",b="y"}`, `{a="{x",b="y"}`,
		`{b="y",a="x"}`, `{a="x",a="y"}`, `{a="x",a="x"}`, `{a="x",b="y",aa="z"}`, `{A="x"}`, `{_="x"}`, `{1="x"}`, `{é="x"}`, `{a="é"}`, "{a=\"\xff\"}", `{a="x y"}`, `{a="\"}`, `{a="x,y"}`, `{a="\x"}`,
		`{abcdefghijklmnopq="x"}`, `{a="12345678901234567"}`,
		`{a="1",b="2",c="3",d="4",e="5",f="6",g="7",h="8",i="9"}`,
		"{" + strings.Repeat(",", 1<<20) + "}", strings.Repeat("{", 1<<20), "{" + strings.Repeat(`a="x",`, 1<<18) + "}", `{a="` + strings.Repeat("x", 1<<20) + `"}`,
	} {
		if got, err := labels.Parse(s); err != api.ErrForm || got != nil {
			t.Errorf("Parse(%.50q) is %q, %d", s, got, err)
		}
	}
}

// P5.4: every string of up to 8 bytes that texts are made of; 9 of them are texts of label sets.
func TestParseShort(t *testing.T) {
	var accepted []string
	for _, b := range listsOf([]byte(`{}a=",`), 8) {
		s := string(b)
		l, err := labels.Parse(s)
		if err == api.OK {
			accepted = append(accepted, s)
		}
		if err == api.OK && (!isSet(l) || labels.Text(l) != s) || err != api.OK && (err != api.ErrForm || l != nil) {
			t.Fatalf("Parse(%q) is %q, %d", s, l, err)
		}
	}
	want := []string{`{}`, `{a="="}`, `{a="a"}`, `{a="=="}`, `{a="=a"}`, `{a="a="}`, `{a="aa"}`, `{aa="="}`, `{aa="a"}`}
	slices.Sort(accepted)
	slices.Sort(want)
	if !slices.Equal(accepted, want) {
		t.Errorf("accepted are %q", accepted)
	}
}

// parse returns the label set whose text is s, and whether there is one, by patterns.
func parse(s string) ([]api.Label, bool) {
	if !setForm.MatchString(s) {
		return nil, false
	}
	var l []api.Label
	for _, m := range regexp.MustCompile(`([a-z0-9_]+)="([^"]+)"`).FindAllStringSubmatch(s, -1) {
		l = append(l, api.Label{Name: m[1], Value: m[2]})
	}
	return l, isSet(l)
}

// P5.4, P5.8: texts of random label sets are parsed as these sets, and after small changes as what they have become.
func TestParseChanged(t *testing.T) {
	r := rand.New(rand.NewSource(3))
	changedSets, refused := 0, 0
	for range 5000 {
		set := randomSet(r)
		text := labels.Text(set)
		if got, err := labels.Parse(text); err != api.OK || !slices.Equal(got, set) {
			t.Fatalf("Parse(%q) is %q, %d", text, got, err)
		}
		for range 10 {
			changed := change(r, text)
			want, ok := parse(changed)
			got, err := labels.Parse(changed)
			if ok && (err != api.OK || !slices.Equal(got, want)) || !ok && (err != api.ErrForm || got != nil) {
				t.Fatalf("Parse(%q) is %q, %d", changed, got, err)
			}
			if !ok {
				refused++
			} else if changed != text {
				changedSets++
				if slices.Equal(got, set) {
					t.Fatalf("%q and %q have the same label set", text, changed)
				}
			}
		}
	}
	if changedSets < 1000 || refused < 1000 {
		t.Errorf("only %d label sets and %d refused strings", changedSets, refused)
	}
}

// change returns a text with one byte removed, inserted or replaced, or with a part of it repeated.
func change(r *rand.Rand, text string) string {
	at := r.Intn(len(text))
	one := randomText(r, "{}\"=,\\ aAz0_~!\x7f\xc3", 1)
	switch r.Intn(4) {
	case 0:
		return text[:at] + text[at+1:]
	case 1:
		return text[:at] + one + text[at:]
	case 2:
		return text[:at] + one + text[at+1:]
	}
	return text[:at] + text[r.Intn(at+1):]
}

// P5.8: two label sets have the same text if and only if they are equal.
func TestTextsDiffer(t *testing.T) {
	sets := map[string][]api.Label{}
	for _, l := range listsOf(of("a", "x", "a", "=", "a", "x=", "aa", "x", "aa", "xx", "b", "x", "b", "y"), 3) {
		if !isSet(l) {
			continue
		}
		text := labels.Text(l)
		if other, ok := sets[text]; ok {
			t.Errorf("%q and %q have the text %q", l, other, text)
		}
		sets[text] = l
		if got, err := labels.Parse(text); err != api.OK || !slices.Equal(got, l) {
			t.Errorf("Parse(%q) is %q, %d", text, got, err)
		}
	}
	if len(sets) != 1+7+3*2+3*2+2*2+3*2*2 {
		t.Errorf("%d label sets", len(sets))
	}
}

// P5.5: values worked out by hand, in both orders.
func TestCompareKnown(t *testing.T) {
	for _, c := range []struct {
		a, b []api.Label
		want int
	}{
		{nil, nil, 0},
		{nil, []api.Label{}, 0},
		{of("a", "x"), of("a", "x"), 0},
		{nil, of("", ""), -1},
		{of("a", "x"), of("a", "y"), -1},
		{of("a", "y"), of("b", "x"), -1},
		{of("a", "x"), of("a", "x", "a", "x"), -1},
		{of("a", "x", "b", "x"), of("a", "y"), -1},
		{of("a", "x", "z", "z"), of("b", "x"), -1},
		{of("a", "x", "b", "x"), of("a", "x", "b", "y"), -1},
		{of("a", "x", "a", "z"), of("a", "x", "b", "a"), -1},
		// The first difference decides, also if later ones, or the values beside different names, point elsewhere.
		{of("a", "x", "c", "z"), of("a", "y", "b", "a"), -1},
		{of("a", "z", "z", "z"), of("b", "a", "a", "a"), -1},
		{of("a", "9"), of("a", "10"), 1},
		{of("a", "x"), of("a", "xx"), -1},
		{of("a", "z"), of("aa", "a"), -1},
		{of("Z", "x"), of("a", "x"), -1},
		{of("z", "x"), of("é", "x"), -1},
		{of("a", "~"), of("a", "\xff"), -1},
		{of("a", ""), of("a", "!"), -1},
		{of("", "b"), of("a", "a"), -1},
	} {
		if got := labels.Compare(c.a, c.b); got != c.want {
			t.Errorf("Compare(%q, %q) is %d", c.a, c.b, got)
		}
		if got := labels.Compare(c.b, c.a); got != -c.want {
			t.Errorf("Compare(%q, %q) is %d", c.b, c.a, got)
		}
	}
}

// P5.5, P5.9: Compare agrees with comparing all names and values in turn, and is a total order.
func TestCompareOrder(t *testing.T) {
	lists := listsOf(of("a", "x", "a", "y", "b", "x", "", "é", "B", ""), 3)
	for _, a := range lists {
		for _, b := range lists {
			got := labels.Compare(a, b)
			if want := slices.Compare(flat(a), flat(b)); got != want {
				t.Fatalf("Compare(%q, %q) is %d, want %d", a, b, got, want)
			}
			if got != -labels.Compare(b, a) || (got == 0) != slices.Equal(a, b) {
				t.Fatalf("Compare(%q, %q) is %d, and %d the other way", a, b, got, labels.Compare(b, a))
			}
		}
	}
	r := rand.New(rand.NewSource(4))
	for range 200000 {
		a, b, c := lists[r.Intn(len(lists))], lists[r.Intn(len(lists))], lists[r.Intn(len(lists))]
		if labels.Compare(a, b) <= 0 && labels.Compare(b, c) <= 0 && labels.Compare(a, c) > 0 {
			t.Fatalf("%q, %q and %q are not in order", a, b, c)
		}
	}
}

// P5.6: values worked out by hand.
func TestKeepKnown(t *testing.T) {
	abc := of("a", "x", "b", "y", "c", "z")
	for _, c := range []struct {
		l     []api.Label
		names []string
		want  []api.Label
	}{
		{abc, []string{"a", "c"}, of("a", "x", "c", "z")},
		{abc, []string{"c", "a"}, of("a", "x", "c", "z")},
		{abc, []string{"b", "b", "b"}, of("b", "y")},
		{abc, []string{"a", "b", "c"}, abc},
		{abc, []string{"d", "x", "", "A", "ab"}, nil},
		{abc, nil, nil},
		{nil, []string{"a"}, nil},
		{nil, nil, nil},
		{of("b", "2", "a", "1", "b", "1", "b", "2"), []string{"b"}, of("b", "2", "b", "1", "b", "2")},
		{of("", "x", "é,", ""), []string{"", "é,"}, of("", "x", "é,", "")},
		{numbered(20), []string{"n01", "n20"}, of("n20", "0", "n01", "19")},
	} {
		if got := labels.Keep(c.l, c.names); !slices.Equal(got, c.want) {
			t.Errorf("Keep(%q, %q) is %q, want %q", c.l, c.names, got, c.want)
		}
	}
}

// P5.6: all short lists.
func TestKeep(t *testing.T) {
	for _, l := range listsOf(of("a", "x", "a", "y", "b", "x", "", ""), 4) {
		for _, names := range listsOf([]string{"a", "b", "", "c"}, 3) {
			want := slices.DeleteFunc(slices.Clone(l), func(e api.Label) bool { return !slices.Contains(names, e.Name) })
			if got := labels.Keep(l, names); !slices.Equal(got, want) {
				t.Fatalf("Keep(%q, %q) is %q, want %q", l, names, got, want)
			}
		}
	}
}

// P5.7: values worked out by hand.
func TestMatchKnown(t *testing.T) {
	const equal, not, prefix = api.MatchEqual, api.MatchNot, api.MatchPrefix
	l := of("a", "x1", "b", "y")
	for _, c := range []struct {
		l    []api.Label
		m    []api.Matcher
		want bool
	}{
		{l, nil, true},
		{nil, nil, true},
		{l, []api.Matcher{is("a", equal, "x1")}, true},
		{l, []api.Matcher{is("a", equal, "x")}, false},
		{l, []api.Matcher{is("a", equal, "x12")}, false},
		{l, []api.Matcher{is("a", equal, "")}, false},
		{l, []api.Matcher{is("a", not, "x1")}, false},
		{l, []api.Matcher{is("a", not, "x")}, true},
		{l, []api.Matcher{is("a", not, "")}, true},
		{l, []api.Matcher{is("a", prefix, "x")}, true},
		{l, []api.Matcher{is("a", prefix, "x1")}, true},
		{l, []api.Matcher{is("a", prefix, "x12")}, false},
		{l, []api.Matcher{is("a", prefix, "1")}, false},
		{l, []api.Matcher{is("a", prefix, "")}, true},
		// A missing label has the empty value.
		{l, []api.Matcher{is("c", equal, "")}, true},
		{l, []api.Matcher{is("c", equal, "x")}, false},
		{l, []api.Matcher{is("c", not, "")}, false},
		{nil, []api.Matcher{is("a", not, "x")}, true},
		{l, []api.Matcher{is("c", prefix, "")}, true},
		{l, []api.Matcher{is("c", prefix, "x")}, false},
		// Every element counts.
		{l, []api.Matcher{is("a", prefix, "x"), is("b", equal, "y")}, true},
		{l, []api.Matcher{is("a", prefix, "x"), is("b", equal, "z")}, false},
		{l, []api.Matcher{is("a", prefix, "y"), is("b", equal, "y")}, false},
		{l, []api.Matcher{is("a", equal, "x1"), is("a", not, "x1")}, false},
		{l, []api.Matcher{is("a", equal, "x1"), is("a", equal, "x1"), is("c", equal, "")}, true},
		// Other kinds never hold.
		{l, []api.Matcher{is("a", 3, "x1")}, false},
		{l, []api.Matcher{is("a", -1, "x1")}, false},
		{nil, []api.Matcher{is("a", 3, "")}, false},
		{nil, []api.Matcher{is("a", math.MaxInt, "x")}, false},
		{l, []api.Matcher{is("a", equal, "x1"), is("a", math.MinInt, "x1")}, false},
		// Any lists: the first element with the name counts, and nothing needs to be valid.
		{of("a", "x", "a", "y"), []api.Matcher{is("a", equal, "x")}, true},
		{of("a", "x", "a", "y"), []api.Matcher{is("a", equal, "y")}, false},
		{of("", ",{"), []api.Matcher{is("", prefix, ",")}, true},
		{of("É", "\xff\x00"), []api.Matcher{is("É", equal, "\xff\x00"), is("É", prefix, "\xff")}, true},
	} {
		if got := labels.Match(c.l, c.m); got != c.want {
			t.Errorf("Match(%q, %v) is %t", c.l, c.m, got)
		}
	}
}

// matchers returns all matchers with some names, kinds and values.
func matchers() []api.Matcher {
	var list []api.Matcher
	for _, name := range []string{"a", "b", ""} {
		for kind := -1; kind <= 3; kind++ {
			for _, value := range []string{"", "x", "xy", "y"} {
				list = append(list, is(name, kind, value))
			}
		}
	}
	return list
}

// P5.7, P5.10: Match holds if each element holds, and depends only on the labels with the names of the matchers.
func TestMatch(t *testing.T) {
	pool := matchers()
	for _, l := range listsOf(of("a", "x", "a", "xy", "b", "y", "", "x", "c", "x"), 2) {
		for _, m := range pool {
			one := labels.Match(l, []api.Matcher{m})
			if want := matches(l, m); one != want {
				t.Fatalf("Match(%q, %v) is %t", l, m, one)
			}
			for _, n := range pool {
				both := []api.Matcher{m, n}
				got := labels.Match(l, both)
				if got != (one && matches(l, n)) {
					t.Fatalf("Match(%q, %v) is %t", l, both, got)
				}
				if got != labels.Match(labels.Keep(l, []string{m.Name, n.Name}), both) {
					t.Fatalf("Match(%q, %v) is %t, but not for the labels that the matchers name", l, both, got)
				}
			}
		}
	}
}

// matches reports by the words of P5.7 whether m holds for l.
func matches(l []api.Label, m api.Matcher) bool {
	v := ""
	for _, e := range slices.Backward(l) {
		if e.Name == m.Name {
			v = e.Value
		}
	}
	return m.Kind == 0 && v == m.Value || m.Kind == 1 && v != m.Value || m.Kind == 2 && len(v) >= len(m.Value) && v[:len(m.Value)] == m.Value
}

// P5.10: for the same name and value, exactly one of MatchEqual and MatchNot holds, and MatchEqual implies MatchPrefix.
func TestMatchKinds(t *testing.T) {
	for _, l := range listsOf(mixed, 2) {
		for _, e := range append(of("none", "", "none", "x", "a", "xy"), mixed...) {
			var holds [3]bool
			for kind := range holds {
				holds[kind] = labels.Match(l, []api.Matcher{is(e.Name, kind, e.Value)})
			}
			if holds[api.MatchEqual] == holds[api.MatchNot] || holds[api.MatchEqual] && !holds[api.MatchPrefix] {
				t.Fatalf("%q: %v for %q", l, holds, e)
			}
		}
	}
}

// R4: arguments stay as they are, including spare capacity, and results share no memory with them.
func TestMemory(t *testing.T) {
	backing := of("b", "y", "a", "x", "c", "z")
	kept := slices.Clone(backing)
	given, names := backing[:2], []string{"b", "a", "c"}
	set, _ := labels.New(given)
	part := labels.Keep(given, names[:2])
	labels.Valid(given)
	if !slices.Equal(backing, kept) || !slices.Equal(names, []string{"b", "a", "c"}) {
		t.Fatalf("the arguments are %q and %q", backing, names)
	}
	for i := range set {
		set[i], part[i] = api.Label{}, api.Label{}
	}
	_, _ = append(set, api.Label{}), append(part, api.Label{})
	if !slices.Equal(backing, kept) {
		t.Errorf("the results share memory with the argument, which is %q", backing)
	}
	sorted := of("a", "x", "b", "y")
	set, _ = labels.New(sorted)
	part = labels.Keep(sorted, []string{"a", "b"})
	sorted[0], sorted[1] = api.Label{}, api.Label{}
	if want := of("a", "x", "b", "y"); !slices.Equal(set, want) || !slices.Equal(part, want) {
		t.Errorf("the results changed with the argument to %q and %q", set, part)
	}
}
