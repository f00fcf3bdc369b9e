package wire_test

import (
	"bytes"
	"encoding/binary"
	"math"
	"math/bits"
	"math/rand"
	"reflect"
	"slices"
	"strings"
	"testing"

	"intervalmon/api"
	"intervalmon/wire"
)

// kind is one of the kinds of values: how a value of it is written, read and compared.
type kind struct {
	name   string
	write  func(w *wire.Writer, v any)
	read   func(r *wire.Reader) any
	zero   any
	random func(r *rand.Rand) any
}

var kinds = []kind{
	{"Int", func(w *wire.Writer, v any) { w.Int(v.(int)) }, func(r *wire.Reader) any { return r.Int() }, 0, func(r *rand.Rand) any { return randomInt(r) }},
	{"Uint", func(w *wire.Writer, v any) { w.Uint(v.(uint64)) }, func(r *wire.Reader) any { return r.Uint() }, uint64(0), func(r *rand.Rand) any { return r.Uint64() >> r.Intn(64) }},
	{"Bool", func(w *wire.Writer, v any) { w.Bool(v.(bool)) }, func(r *wire.Reader) any { return r.Bool() }, false, func(r *rand.Rand) any { return r.Intn(2) == 1 }},
	{"Text", func(w *wire.Writer, v any) { w.Text(v.(string)) }, func(r *wire.Reader) any { return r.Text() }, "", func(r *rand.Rand) any { return string(randomBytes(r)) }},
	{"Raw", func(w *wire.Writer, v any) { w.Raw(v.([]byte)) }, func(r *wire.Reader) any { return r.Raw() }, []byte{}, func(r *rand.Rand) any { return randomBytes(r) }},
	{"Ints", func(w *wire.Writer, v any) { w.Ints(v.([]int)) }, func(r *wire.Reader) any { return r.Ints() }, []int{}, func(r *rand.Rand) any { return randomInts(r) }},
}

func randomInt(r *rand.Rand) int {
	return int(r.Uint64()) >> r.Intn(64)
}

// randomBytes returns a few bytes, seldom so many that the length has two bytes.
func randomBytes(r *rand.Rand) []byte {
	n := r.Intn(6)
	if r.Intn(10) == 0 {
		n = 120 + r.Intn(20)
	}
	b := make([]byte, n)
	r.Read(b)
	return b
}

func randomInts(r *rand.Rand) []int {
	l := make([]int, len(randomBytes(r)))
	for i := range l {
		l[i] = randomInt(r)
	}
	return l
}

// same compares two values of a kind; nil and empty slices are the same (R4).
func same(a, b any) bool {
	va, vb := reflect.ValueOf(a), reflect.ValueOf(b)
	if va.Kind() == reflect.Slice && va.Len() == 0 && vb.Len() == 0 {
		return va.Type() == vb.Type()
	}
	return reflect.DeepEqual(a, b)
}

// find returns the kind with a name.
func find(name string) kind {
	return kinds[slices.IndexFunc(kinds, func(k kind) bool { return k.name == name })]
}

// written returns the bytes of one value.
func written(k kind, v any) []byte {
	var w wire.Writer
	k.write(&w, v)
	return w.Done()
}

// edges are numbers at which the encodings become longer.
func edges() []uint64 {
	l := []uint64{0, math.MaxUint64}
	for shift := range 64 {
		l = append(l, 1<<shift-1, 1<<shift, 1<<shift+1)
	}
	return l
}

// known are values with their encodings, written out by hand.
var known = []struct {
	kind  string
	value any
	bytes []byte
}{
	{"Uint", uint64(0), []byte{0}},
	{"Uint", uint64(1), []byte{1}},
	{"Uint", uint64(127), []byte{127}},
	{"Uint", uint64(128), []byte{128, 1}},
	{"Uint", uint64(300), []byte{172, 2}},
	{"Uint", uint64(16383), []byte{255, 127}},
	{"Uint", uint64(16384), []byte{128, 128, 1}},
	{"Uint", uint64(1) << 63, []byte{128, 128, 128, 128, 128, 128, 128, 128, 128, 1}},
	{"Uint", uint64(1)<<63 - 1, []byte{255, 255, 255, 255, 255, 255, 255, 255, 127}},
	{"Uint", uint64(math.MaxUint64), []byte{255, 255, 255, 255, 255, 255, 255, 255, 255, 1}},
	{"Int", 0, []byte{0}},
	{"Int", -1, []byte{1}},
	{"Int", 1, []byte{2}},
	{"Int", -2, []byte{3}},
	{"Int", 63, []byte{126}},
	{"Int", -64, []byte{127}},
	{"Int", 64, []byte{128, 1}},
	{"Int", -65, []byte{129, 1}},
	{"Int", math.MaxInt, []byte{254, 255, 255, 255, 255, 255, 255, 255, 255, 1}},
	{"Int", math.MinInt, []byte{255, 255, 255, 255, 255, 255, 255, 255, 255, 1}},
	{"Bool", false, []byte{0}},
	{"Bool", true, []byte{1}},
	{"Text", "", []byte{0}},
	{"Text", "ab", []byte{2, 97, 98}},
	{"Text", "é\x00\xff", []byte{4, 195, 169, 0, 255}},
	{"Text", strings.Repeat("x", 130), append([]byte{130, 1}, strings.Repeat("x", 130)...)},
	{"Raw", []byte(nil), []byte{0}},
	{"Raw", []byte{}, []byte{0}},
	{"Raw", []byte{0, 128, 255}, []byte{3, 0, 128, 255}},
	{"Raw", bytes.Repeat([]byte{200}, 128), append([]byte{128, 1}, bytes.Repeat([]byte{200}, 128)...)},
	{"Ints", []int(nil), []byte{0}},
	{"Ints", []int{}, []byte{0}},
	{"Ints", []int{-1}, []byte{1, 1}},
	{"Ints", []int{0, 150, -150, 0}, []byte{4, 0, 172, 2, 171, 2, 0}},
	{"Ints", make([]int, 128), append([]byte{128, 1}, make([]byte, 128)...)},
}

// P2.1: each value is written as its encoding.
func TestWriteKnown(t *testing.T) {
	for _, c := range known {
		if got := written(find(c.kind), c.value); !bytes.Equal(got, c.bytes) {
			t.Errorf("%s(%v) appends %v, want %v", c.kind, c.value, got, c.bytes)
		}
	}
}

// P2.3 to P2.5: each encoding is read as its value, and the reader stands behind it.
func TestReadKnown(t *testing.T) {
	for _, c := range known {
		r := wire.Read(append(slices.Clone(c.bytes), 77))
		if got := find(c.kind).read(r); !same(got, c.value) {
			t.Errorf("%s of %v is %v, want %v", c.kind, c.bytes, got, c.value)
		}
		if n := r.Uint(); n != 77 || r.End() != api.OK {
			t.Errorf("after %s of %v: %d, %d", c.kind, c.bytes, n, r.End())
		}
	}
}

// P2.1: varints and zigzag forms are those of the library, on both sides of every length.
func TestWriteAsLibrary(t *testing.T) {
	for _, n := range edges() {
		if got, want := written(find("Uint"), n), binary.AppendUvarint(nil, n); !bytes.Equal(got, want) {
			t.Errorf("Uint(%d) appends %v, want %v", n, got, want)
		}
		if got, want := written(find("Int"), int(n)), binary.AppendVarint(nil, int64(n)); !bytes.Equal(got, want) {
			t.Errorf("Int(%d) appends %v, want %v", int(n), got, want)
		}
	}
}

// P2.1: values follow one another, and more can be appended after Done.
func TestWriterGoesOn(t *testing.T) {
	var w wire.Writer
	if got := w.Done(); len(got) != 0 {
		t.Errorf("the zero Writer contains %v", got)
	}
	var want []byte
	for _, c := range known {
		find(c.kind).write(&w, c.value)
		want = append(want, c.bytes...)
		if got := w.Done(); !bytes.Equal(got, want) {
			t.Fatalf("up to %s(%v): %v, want %v", c.kind, c.value, got, want)
		}
	}
}

// P2.1 and R4: Done returns new slices, of which neither the bytes nor the spare capacity belong to the writer.
func TestDoneIsNew(t *testing.T) {
	var w wire.Writer
	w.Raw([]byte{1, 2, 3})
	first, second := w.Done(), w.Done()
	clear(first[:cap(first)])
	if !bytes.Equal(second, []byte{3, 1, 2, 3}) {
		t.Error("two results of Done share memory")
	}
	w.Int(-1)
	_ = append(first, 9, 9, 9)
	if got := w.Done(); !bytes.Equal(got, []byte{3, 1, 2, 3, 1}) {
		t.Errorf("changes of a result lead to %v", got)
	}
	if !bytes.Equal(second, []byte{3, 1, 2, 3}) {
		t.Error("appending changes an earlier result")
	}
}

// P2.1 and R4: arguments of a Writer are neither changed nor kept.
func TestWriterArguments(t *testing.T) {
	var w wire.Writer
	b, l := []byte{1, 2, 3, 4}, []int{1, 2, 3, 4}
	w.Raw(b[:2])
	w.Ints(l[:2])
	w.Uint(5)
	if !bytes.Equal(b, []byte{1, 2, 3, 4}) || !slices.Equal(l, []int{1, 2, 3, 4}) {
		t.Errorf("the arguments became %v and %v", b, l)
	}
	clear(b)
	clear(l)
	if got := w.Done(); !bytes.Equal(got, []byte{2, 1, 2, 2, 2, 4, 5}) {
		t.Errorf("changing the arguments leads to %v", got)
	}
}

// P2.1: two Writers have nothing in common.
func TestWritersApart(t *testing.T) {
	var a, b wire.Writer
	a.Uint(1)
	b.Uint(2)
	a.Uint(3)
	if !bytes.Equal(a.Done(), []byte{1, 3}) || !bytes.Equal(b.Done(), []byte{2}) {
		t.Errorf("%v and %v", a.Done(), b.Done())
	}
}

// P2.2: a new reader has no error; without bytes it is at its end.
func TestReadEmpty(t *testing.T) {
	for _, b := range [][]byte{nil, {}, make([]byte, 0, 8)} {
		if err := wire.Read(b).End(); err != api.OK {
			t.Errorf("End of nothing is %d", err)
		}
		for _, k := range kinds {
			r := wire.Read(b)
			if got := k.read(r); !same(got, k.zero) || r.End() != api.ErrMore {
				t.Errorf("%s of nothing is %v, %d", k.name, got, r.End())
			}
		}
	}
}

// P2.2 and R4: a reader neither changes nor keeps its bytes, and reads no spare capacity.
func TestReadCopies(t *testing.T) {
	b := []byte{2, 97, 98, 2, 7, 8, 1, 5}
	kept := slices.Clone(b)
	r := wire.Read(b)
	short := wire.Read(b[:2])
	if got := short.Text(); got != "" || short.End() != api.ErrMore {
		t.Errorf("beyond the slice: %q, %d", got, short.End())
	}
	if !bytes.Equal(b, kept) {
		t.Errorf("reading changed the bytes to %v", b)
	}
	clear(b)
	s, raw, l := r.Text(), r.Raw(), r.Ints()
	if s != "ab" || !bytes.Equal(raw, []byte{7, 8}) || !slices.Equal(l, []int{-3}) || r.End() != api.OK {
		t.Errorf("after a change of the bytes: %q, %v, %v, %d", s, raw, l, r.End())
	}
}

// P2.5 and R4: what Raw and Ints return is new.
func TestResultsAreNew(t *testing.T) {
	b := []byte{2, 1, 2, 2, 3, 4, 2, 2, 4, 9}
	r := wire.Read(b)
	first := r.Raw()
	_ = append(first, 99, 99, 99)
	clear(first[:cap(first)])
	second := r.Raw()
	if !bytes.Equal(second, []byte{3, 4}) || !bytes.Equal(b[:3], []byte{2, 1, 2}) {
		t.Errorf("after a change of the first result: %v of %v", second, b)
	}
	l := r.Ints()
	clear(l[:cap(l)])
	if n := r.Uint(); n != 9 || r.End() != api.OK {
		t.Errorf("after a change of the list: %d, %d", n, r.End())
	}
}

// P2.2: bytes that are left lead to ErrForm, which is not recorded.
func TestEndRecordsNothing(t *testing.T) {
	r := wire.Read([]byte{5, 1, 4})
	for _, want := range []uint64{5, 1} {
		if r.End() != api.ErrForm || r.End() != api.ErrForm {
			t.Errorf("End before %d is %d", want, r.End())
		}
		if n := r.Uint(); n != want {
			t.Errorf("after End: %d, want %d", n, want)
		}
	}
	if r.End() != api.ErrForm {
		t.Errorf("End before the last byte is %d", r.End())
	}
	if n := r.Int(); n != 2 || r.End() != api.OK || r.End() != api.OK {
		t.Errorf("at the end: %d, %d", n, r.End())
	}
	if n := r.Int(); n != 0 || r.End() != api.ErrMore || r.End() != api.ErrMore {
		t.Errorf("beyond the end: %d, %d", n, r.End())
	}
}

// refused are bytes that one method refuses.
var refused = []struct {
	kind  string
	bytes []byte
	err   api.Errno
}{
	{"Uint", []byte{}, api.ErrMore},
	{"Uint", []byte{128}, api.ErrMore},
	{"Uint", []byte{255, 255}, api.ErrMore},
	{"Uint", bytes.Repeat([]byte{128}, 9), api.ErrMore},
	{"Uint", []byte{128, 0}, api.ErrForm},
	{"Uint", []byte{255, 0, 1}, api.ErrForm},
	{"Uint", []byte{128, 128, 0}, api.ErrForm},
	{"Uint", append(bytes.Repeat([]byte{128}, 9), 0), api.ErrForm},
	{"Uint", append(bytes.Repeat([]byte{128}, 9), 2), api.ErrForm},
	{"Uint", append(bytes.Repeat([]byte{255}, 9), 127), api.ErrForm},
	{"Uint", bytes.Repeat([]byte{128}, 10), api.ErrForm},
	{"Uint", append(bytes.Repeat([]byte{255}, 9), 129, 1), api.ErrForm},
	{"Uint", bytes.Repeat([]byte{255}, 11), api.ErrForm},
	{"Int", []byte{}, api.ErrMore},
	{"Int", []byte{129}, api.ErrMore},
	{"Int", []byte{128, 0}, api.ErrForm},
	{"Int", append(bytes.Repeat([]byte{255}, 9), 2), api.ErrForm},
	{"Bool", []byte{}, api.ErrMore},
	{"Bool", []byte{2}, api.ErrForm},
	{"Bool", []byte{128}, api.ErrForm},
	{"Bool", []byte{129, 0}, api.ErrForm},
	{"Text", []byte{}, api.ErrMore},
	{"Text", []byte{1}, api.ErrMore},
	{"Text", []byte{3, 97, 98}, api.ErrMore},
	{"Text", []byte{128}, api.ErrMore},
	{"Text", []byte{129, 0, 97}, api.ErrForm},
	// Behind the length, bytes are left that other methods accept or refuse.
	{"Text", []byte{9, 2, 128, 0}, api.ErrMore},
	{"Raw", []byte{9, 1, 97, 1}, api.ErrMore},
	{"Raw", []byte{}, api.ErrMore},
	{"Raw", []byte{1}, api.ErrMore},
	{"Raw", []byte{2, 1}, api.ErrMore},
	{"Raw", []byte{128}, api.ErrMore},
	{"Raw", []byte{128, 0}, api.ErrForm},
	{"Ints", []byte{}, api.ErrMore},
	{"Ints", []byte{1}, api.ErrMore},
	{"Ints", []byte{3, 2, 4}, api.ErrMore},
	{"Ints", []byte{2, 2, 128}, api.ErrMore},
	{"Ints", []byte{2, 130, 1}, api.ErrMore},
	{"Ints", []byte{2, 2, 128, 0}, api.ErrForm},
	{"Ints", []byte{3, 128, 0, 128}, api.ErrForm},
	{"Ints", append(append([]byte{1}, bytes.Repeat([]byte{255}, 9)...), 3), api.ErrForm},
	{"Ints", []byte{128, 0}, api.ErrForm},
	// The length exceeds the bytes that are left before a malformed element is reached.
	{"Ints", []byte{4, 128, 0, 5}, api.ErrMore},
}

// P2.3 to P2.5: what is not an encoding is refused with its error and read as the zero value.
func TestReadRefused(t *testing.T) {
	for _, c := range refused {
		k := find(c.kind)
		r := wire.Read(c.bytes)
		if got := k.read(r); !same(got, k.zero) || r.End() != c.err {
			t.Errorf("%s of %v is %v, %d, want the error %d", c.kind, c.bytes, got, r.End(), c.err)
		}
	}
}

// P2.2: after an error every method returns its zero value and the first error stays, also if bytes are left that could be read.
func TestErrorStays(t *testing.T) {
	for _, c := range refused {
		inputs := [][]byte{c.bytes}
		if c.err == api.ErrForm {
			inputs = append(inputs, append(slices.Clone(c.bytes), 1, 1, 1, 1))
		}
		for _, b := range inputs {
			for _, k := range kinds {
				r := wire.Read(b)
				find(c.kind).read(r)
				checkStays(t, r, k, b, c.err)
			}
		}
	}
}

// checkStays checks that a reader of b with a recorded error reads nothing more.
func checkStays(t *testing.T, r *wire.Reader, k kind, b []byte, err api.Errno) {
	t.Helper()
	for range 3 {
		if got := k.read(r); !same(got, k.zero) || r.End() != err {
			t.Errorf("%s after the error %d in %v is %v, %d", k.name, err, b, got, r.End())
		}
	}
}

// P2.4: Bool accepts exactly two bytes, and reads one.
func TestBoolOfEveryByte(t *testing.T) {
	for c := range 256 {
		r := wire.Read([]byte{byte(c), 1})
		got := r.Bool()
		switch {
		case got != (c == 1):
			t.Errorf("Bool of %d is %t", c, got)
		case c < 2 && (!r.Bool() || r.End() != api.OK):
			t.Errorf("Bool of %d does not read one byte", c)
		case c > 1 && (r.Bool() || r.End() != api.ErrForm):
			t.Errorf("Bool of %d: the error is %d", c, r.End())
		}
	}
}

// P2.5: a length is compared with the bytes that are left behind it, however large it is.
func TestLengths(t *testing.T) {
	for _, name := range []string{"Text", "Raw", "Ints"} {
		k := find(name)
		for _, left := range []int{0, 1, 5, 127, 128, 300} {
			for _, n := range append(edges(), uint64(left), uint64(left)+1) {
				b := append(binary.AppendUvarint(nil, n), make([]byte, left)...)
				r := wire.Read(b)
				got := reflect.ValueOf(k.read(r)).Len()
				if n > uint64(left) && (got != 0 || r.End() != api.ErrMore) {
					t.Errorf("%s with the length %d and %d bytes: %d elements, %d", name, n, left, got, r.End())
				}
				if n <= uint64(left) && (got != int(n) || (r.End() == api.OK) != (n == uint64(left))) {
					t.Errorf("%s with the length %d and %d bytes: %d elements, %d", name, n, left, got, r.End())
				}
			}
		}
	}
}

// P2.5: the bytes of a string are taken as they are, valid as UTF-8 or not.
func TestTextOfEveryByte(t *testing.T) {
	b := make([]byte, 256)
	for i := range b {
		b[i] = byte(i)
	}
	r := wire.Read(append([]byte{128, 2}, b...))
	if got := r.Text(); got != string(b) || r.End() != api.OK {
		t.Errorf("%q, %d", got, r.End())
	}
}

// P2.5: an error in any element makes the whole list empty.
func TestIntsWithBadElement(t *testing.T) {
	for at := range 5 {
		b := []byte{5}
		for i := range 5 {
			if i == at {
				b = append(b, 128, 0)
			} else {
				b = append(b, 2)
			}
		}
		r := wire.Read(b)
		if got := r.Ints(); len(got) != 0 || r.End() != api.ErrForm {
			t.Errorf("element %d is wrong: %v, %d", at, got, r.End())
		}
	}
}

// sequence is a random sequence of values with their kinds.
type sequence struct {
	kinds  []kind
	values []any
}

func randomSequence(r *rand.Rand) sequence {
	var s sequence
	for range r.Intn(8) {
		k := kinds[r.Intn(len(kinds))]
		s.kinds = append(s.kinds, k)
		s.values = append(s.values, k.random(r))
	}
	return s
}

// write returns the bytes of the sequence.
func (s sequence) write() []byte {
	var w wire.Writer
	for i, k := range s.kinds {
		k.write(&w, s.values[i])
	}
	return w.Done()
}

// read reads values of the sequence's kinds from b.
func (s sequence) read(b []byte) (sequence, api.Errno) {
	r := wire.Read(b)
	got := sequence{kinds: s.kinds}
	for _, k := range s.kinds {
		got.values = append(got.values, k.read(r))
	}
	return got, r.End()
}

// P2.6: what was written is read back.
func TestRoundTrip(t *testing.T) {
	r := rand.New(rand.NewSource(1))
	for range 3000 {
		s := randomSequence(r)
		got, err := s.read(s.write())
		if err != api.OK || !slices.EqualFunc(got.values, s.values, same) {
			t.Errorf("%v is read as %v, %d", s.values, got.values, err)
		}
	}
}

// P2.6: single numbers at the edges of the lengths are read back.
func TestRoundTripEdges(t *testing.T) {
	for _, n := range edges() {
		s := sequence{[]kind{find("Uint"), find("Int"), find("Ints")}, []any{n, int(n), []int{int(n), -int(n)}}}
		got, err := s.read(s.write())
		if err != api.OK || !slices.EqualFunc(got.values, s.values, same) {
			t.Errorf("%v is read as %v, %d", s.values, got.values, err)
		}
	}
}

// checkOne checks P2.7 for one value: bytes that are read without an error are those that its value is written as.
func checkOne(t *testing.T, b []byte) {
	t.Helper()
	for _, k := range kinds {
		r := wire.Read(b)
		v := k.read(r)
		if r.End() == api.OK && !bytes.Equal(written(k, v), b) {
			t.Errorf("%s reads %v from %v, which is written as %v", k.name, v, b, written(k, v))
		}
	}
}

// P2.7: all sequences of up to two bytes, and longer ones of bytes at which something changes.
func TestOneEncodingOfShort(t *testing.T) {
	for a := range 256 {
		checkOne(t, []byte{byte(a)})
		for b := range 256 {
			checkOne(t, []byte{byte(a), byte(b)})
		}
	}
	some := []byte{0, 1, 2, 3, 127, 128, 129, 255}
	for code := range 1 << 15 {
		b := make([]byte, 5)
		for i := range b {
			b[i] = some[code>>(3*i)&7]
		}
		checkOne(t, b)
		checkOne(t, b[:4])
	}
}

// P2.7: the longest varints, with every last byte.
func TestOneEncodingOfLong(t *testing.T) {
	for _, fill := range []byte{128, 200, 255} {
		for size := 7; size < 11; size++ {
			for last := range 256 {
				checkOne(t, append(bytes.Repeat([]byte{fill}, size), byte(last)))
				checkOne(t, append([]byte{1}, append(bytes.Repeat([]byte{fill}, size), byte(last))...))
			}
		}
	}
}

// P2.7: encodings of sequences with one changed byte are read as other values, or refused.
func TestOneEncodingOfChanged(t *testing.T) {
	r := rand.New(rand.NewSource(2))
	accepted := 0
	for range 5000 {
		s := randomSequence(r)
		b := s.write()
		if len(b) == 0 {
			continue
		}
		b[r.Intn(len(b))] ^= byte(1 + r.Intn(255))
		got, err := s.read(b)
		if err != api.OK {
			continue
		}
		accepted++
		if again := got.write(); !bytes.Equal(again, b) {
			t.Errorf("%v is read from %v, but written as %v", got.values, b, again)
		}
		if slices.EqualFunc(got.values, s.values, same) {
			t.Errorf("%v is read from two sequences of bytes", s.values)
		}
	}
	if accepted < 500 {
		t.Errorf("only %d changed encodings were accepted", accepted)
	}
}

// P2.8: every proper prefix of an encoding is incomplete.
func TestPrefixes(t *testing.T) {
	r := rand.New(rand.NewSource(3))
	for range 300 {
		s := randomSequence(r)
		b := s.write()
		for n := range b {
			if got, err := s.read(b[:n]); err != api.ErrMore {
				t.Errorf("%d bytes of %v are read as %v, %d", n, b, got.values, err)
			}
		}
	}
}

// P2.8: every proper prefix of the encodings that are written out by hand is incomplete.
func TestPrefixesOfKnown(t *testing.T) {
	for _, c := range known {
		for n := range c.bytes {
			r := wire.Read(c.bytes[:n])
			if got := find(c.kind).read(r); !same(got, find(c.kind).zero) || r.End() != api.ErrMore {
				t.Errorf("%s of %v is %v, %d", c.kind, c.bytes[:n], got, r.End())
			}
		}
	}
}

// P2.8: a varint has one byte for every 7 bits that are needed, at least one.
func TestVarintSize(t *testing.T) {
	for _, n := range edges() {
		want := max(1, (bits.Len64(n)+6)/7)
		if got := len(written(find("Uint"), n)); got != want {
			t.Errorf("Uint(%d) has %d bytes, want %d", n, got, want)
		}
	}
}

// R5: two readers have nothing in common.
func TestReadersApart(t *testing.T) {
	b := []byte{1, 2, 3}
	a, other := wire.Read(b), wire.Read(b)
	a.Uint()
	a.Bool()
	if other.Uint() != 1 || other.Uint() != 2 || other.Uint() != 3 || other.End() != api.OK || a.End() != api.ErrForm {
		t.Errorf("%d and %d", a.End(), other.End())
	}
}
