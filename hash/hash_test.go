package hash_test

import (
	"encoding/binary"
	"math"
	"math/rand"
	"slices"
	"strings"
	"testing"

	"intervalmon/hash"
)

// factor and inverse are the factor of the document and its inverse modulo 2^64.
const (
	factor  uint64 = 0x9E3779B97F4A7C15
	inverse uint64 = 0xF1DE83E19937733D
)

// mixAll mixes words into a state by the document's formula.
func mixAll(state uint64, words ...uint64) uint64 {
	for _, w := range words {
		m := (state ^ w) * factor
		state = m ^ m>>32
	}
	return state
}

// unmix returns the exclusive or of the state and the word from which mixing made a state.
func unmix(state uint64) uint64 {
	return (state ^ state>>32) * inverse
}

// padded returns the words of bytes, read from a copy that is padded as a whole.
func padded(b string) []uint64 {
	whole := []byte(b + strings.Repeat("\x00", (8-len(b)%8)%8))
	var l []uint64
	for ; len(whole) > 0; whole = whole[8:] {
		l = append(l, binary.LittleEndian.Uint64(whole))
	}
	return l
}

// sum is P1.1, written out as a single sequence of words.
func sum(label string, words []int) uint64 {
	l := append(padded(label), uint64(len(label)), uint64(len(words)))
	for _, n := range words {
		l = append(l, uint64(n))
	}
	return mixAll(0, append(l, 0)...)
}

func randomWords(r *rand.Rand, n int) []int {
	l := make([]int, n)
	for i := range l {
		l[i] = int(r.Uint64()) >> r.Intn(64)
	}
	return l
}

func randomBytes(r *rand.Rand, n int) []byte {
	b := make([]byte, n)
	for i := range b {
		b[i] = byte(r.Intn(256))
	}
	return b
}

// P1.1: sums that were calculated apart from this program.
func TestSumKnown(t *testing.T) {
	for _, c := range []struct {
		label string
		words []int
		want  uint64
	}{
		{"", nil, 0},
		{"n", nil, 0xb4f4ccbb78621f03},
		{"", []int{0}, 0x9c60c22591400851},
		{"a", []int{5}, 0xdbbe367e93b58544},
		{"a", []int{6}, 0x49fc8178b938ecaf},
		{"a", []int{5, 6}, 0x6806ad89e0fe97f1},
		{"a", []int{6, 5}, 0xf8b809e19626cd51},
		{"a", []int{0}, 0xaeccc2c435d70264},
		{"a", []int{0, 0}, 0xe54a7e297e3ed74a},
		{"a", []int{-1}, 0x09ee594d249f2a64},
		{"a", []int{math.MinInt}, 0xee7200cff569c06f},
		{"a", []int{math.MaxInt}, 0x49939757e4e2e47e},
		{"12345678", []int{1}, 0x885101863f2397ee},
		{"123456789", []int{1}, 0x5111dc91989766c7},
		{"12345678abcdefgh", []int{1}, 0x0a16e4feea9779e3},
		{"a\x00", []int{1}, 0x82002e731ea7ca0d},
		{"\x00", []int{1}, 0x11c05b0a8088787a},
		{"é€", []int{1}, 0xeaef57187e24049a},
		{"\xff\xfe", []int{1}, 0x9d33b506e692d56e},
	} {
		if got := hash.Sum(c.label, c.words...); got != c.want {
			t.Errorf("Sum(%q, %v) = %#x, want %#x", c.label, c.words, got, c.want)
		}
	}
}

// P1.1: sums of labels and lists of all short lengths.
func TestSumFormula(t *testing.T) {
	r := rand.New(rand.NewSource(1))
	for size := range 40 {
		for count := range 12 {
			label, words := string(randomBytes(r, size)), randomWords(r, count)
			if got, want := hash.Sum(label, words...), sum(label, words); got != want {
				t.Errorf("Sum(%q, %v) = %#x, want %#x", label, words, got, want)
			}
		}
	}
}

// P1.2: hashes that were calculated apart from this program.
func TestBytesKnown(t *testing.T) {
	for _, c := range []struct {
		b    string
		want uint64
	}{
		{"", 0xaeccc2c435d70264},
		{"\x00", 0xaffae7c4cb5a318d},
		{"\x01\x02", 0x5cd85cbd93fd0838},
		{"\x01\x02\x03\x04\x05\x06\x07", 0xbaad8c9b24c643bf},
		{"\x01\x02\x03\x04\x05\x06\x07\x08", 0x4657d4f381db6fb8},
		{"\x01\x02\x03\x04\x05\x06\x07\x08\x09", 0x193354c4b2cf0c3e},
		{"\xff\xff\xff\xff\xff\xff\xff\xff", 0x95b8171fd292e263},
		{strings.Repeat("\xff", 17), 0x1d4b5f01ac2336b6},
		{"\x00\x00\x00\x00\x00\x00\x00\x00", 0xc8f74304dc7d41ab},
	} {
		if got := hash.Bytes("a", []byte(c.b)); got != c.want {
			t.Errorf("Bytes(a, %q) = %#x, want %#x", c.b, got, c.want)
		}
	}
	if hash.Bytes("a", nil) != hash.Bytes("a", []byte{}) {
		t.Error("nil and empty slices have different hashes")
	}
}

// P1.2: Bytes is the sum of the words and the length, for every length up to several groups.
func TestBytesFormula(t *testing.T) {
	r := rand.New(rand.NewSource(2))
	for size := range 70 {
		b := randomBytes(r, size)
		var words []int
		for _, w := range padded(string(b)) {
			words = append(words, int(w))
		}
		if hash.Bytes("label", b) != hash.Sum("label", append(words, size)...) {
			t.Errorf("Bytes of %v is not the sum of its words", b)
		}
	}
	if hash.Bytes("a", []byte{1, 2}) != hash.Sum("a", 513, 2) {
		t.Error("the document's example")
	}
}

// P1.2: the last group is padded with zeros, whatever follows the slice in memory; arguments stay as they are (R4).
func TestArgumentsStay(t *testing.T) {
	whole := []byte{1, 2, 3, 4, 5, 6, 7, 8, 9, 10, 11, 12}
	kept := slices.Clone(whole)
	if hash.Bytes("a", whole[:9]) != hash.Bytes("a", []byte{1, 2, 3, 4, 5, 6, 7, 8, 9}) {
		t.Error("spare capacity changes the hash")
	}
	if !slices.Equal(whole, kept) {
		t.Error("Bytes changed its argument")
	}
	words := []int{1, 2, 3, 4}
	if hash.Sum("a", words[:2]...) != hash.Sum("a", 1, 2) {
		t.Error("spare capacity changes the sum")
	}
	if !slices.Equal(words, []int{1, 2, 3, 4}) {
		t.Error("Sum changed its argument")
	}
}

// P1.2: Pair is the sum of two words.
func TestPair(t *testing.T) {
	for _, c := range []struct{ a, b, want uint64 }{
		{0, 0, 0xa37203a6cd944451},
		{1, 0, 0xac0be7f70c68669f},
		{0, 1, 0xd26a3ec0cf3b6d10},
		{1 << 63, 5, 0xd2e16b299fbc35d0},
		{math.MaxUint64, math.MaxUint64, 0x7d494b93e5939a5f},
		{0x0123456789abcdef, 0xfedcba9876543210, 0x36f89bfc7a902d58},
	} {
		if got := hash.Pair(c.a, c.b); got != c.want {
			t.Errorf("Pair(%#x, %#x) = %#x, want %#x", c.a, c.b, got, c.want)
		}
		if hash.Pair(c.a, c.b) != hash.Sum("pair", int(c.a), int(c.b)) {
			t.Errorf("Pair(%#x, %#x) is not the sum of its words", c.a, c.b)
		}
	}
}

// P1.3: each element of a list can be calculated from the sum and the other elements, so no two values of it have the same sum.
func TestWordFromSum(t *testing.T) {
	r := rand.New(rand.NewSource(3))
	for range 500 {
		words := randomWords(r, 1+r.Intn(9))
		label := string(randomBytes(r, r.Intn(20)))
		at := r.Intn(len(words))
		head := append(padded(label), uint64(len(label)), uint64(len(words)))
		for _, n := range words[:at] {
			head = append(head, uint64(n))
		}
		state := unmix(hash.Sum(label, words...))
		for _, n := range slices.Backward(words[at+1:]) {
			state = unmix(state) ^ uint64(n)
		}
		if got := int(unmix(state) ^ mixAll(0, head...)); got != words[at] {
			t.Errorf("element %d of %v under %q is calculated as %d", at, words, label, got)
		}
	}
}

// P1.3: lists of equal length that differ in exactly one element have different sums.
func TestOneElementDiffers(t *testing.T) {
	r := rand.New(rand.NewSource(4))
	for count := 1; count < 8; count++ {
		words := randomWords(r, count)
		for at := range words {
			seen := map[uint64]bool{hash.Sum("list", words...): true}
			for bit := range 64 {
				other := slices.Clone(words)
				other[at] ^= 1 << bit
				h := hash.Sum("list", other...)
				if seen[h] {
					t.Errorf("bit %d of element %d of %v leads to a repeated sum", bit, at, words)
				}
				seen[h] = true
			}
		}
	}
}

// P1.3: byte slices of equal length that differ within a group, and labels of equal length that do, lead to different hashes.
func TestOneGroupDiffers(t *testing.T) {
	r := rand.New(rand.NewSource(5))
	for size := 1; size < 30; size++ {
		b := randomBytes(r, size)
		for first := 0; first < size; first += 8 {
			last := min(first+8, size)
			bytesSeen, labelsSeen, slicesSeen := map[uint64]bool{}, map[uint64]bool{}, map[string]bool{}
			for range 200 {
				other := slices.Clone(b)
				copy(other[first:last], randomBytes(r, last-first))
				if slicesSeen[string(other)] {
					continue
				}
				slicesSeen[string(other)] = true
				hb, hl := hash.Bytes("bytes", other), hash.Sum(string(other), 1, 2)
				if bytesSeen[hb] || labelsSeen[hl] {
					t.Errorf("a repeated hash for %v", other)
				}
				bytesSeen[hb], labelsSeen[hl] = true, true
			}
		}
	}
}

// P1.4: each argument of Pair can be calculated from the hash and the other argument.
func TestPairInjective(t *testing.T) {
	r := rand.New(rand.NewSource(6))
	start := mixAll(0, append(padded("pair"), 4, 2)...)
	for range 1000 {
		a, b := r.Uint64()>>r.Intn(64), r.Uint64()>>r.Intn(64)
		state := unmix(unmix(hash.Pair(a, b)))
		if got := state ^ mixAll(start, a); got != b {
			t.Errorf("the second argument of Pair(%d, %d) is calculated as %d", a, b, got)
		}
		if got := unmix(state^b) ^ start; got != a {
			t.Errorf("the first argument of Pair(%d, %d) is calculated as %d", a, b, got)
		}
	}
}

// P1.4: for one fixed argument, no two other arguments have the same hash.
func TestPairDistinct(t *testing.T) {
	for _, fixed := range []uint64{0, 1, 1 << 63, math.MaxUint64} {
		firsts, seconds := map[uint64]bool{}, map[uint64]bool{}
		for n := range uint64(2000) {
			for _, other := range []uint64{n, math.MaxUint64 - n} {
				firsts[hash.Pair(other, fixed)] = true
				seconds[hash.Pair(fixed, other)] = true
			}
		}
		if len(firsts) != 4000 || len(seconds) != 4000 {
			t.Errorf("repeated hashes with the argument %d: %d and %d of 4000 are left", fixed, len(firsts), len(seconds))
		}
	}
}

// R5: equal arguments have equal hashes, whatever was hashed before.
func TestRepeatable(t *testing.T) {
	first := hash.Sum("again", 1, 2, 3)
	hash.Bytes("between", []byte("other bytes"))
	if hash.Sum("again", 1, 2, 3) != first {
		t.Error("a second call returns another sum")
	}
}
