package sum_test

import (
	"encoding/binary"
	"hash/fnv"
	"math"
	"math/big"
	"math/rand"
	"slices"
	"testing"

	"ballast/api"
	"ballast/sum"
)

const firstState uint64 = 14695981039346656037

// lengths has numbers of words that are not too many.
func lengths() []int {
	return []int{0, 1, 2, 3, 7, 8, 9, 64, 255, 256, 1000, 2047, 2048}
}

// tooMany has numbers of words that are too many.
func tooMany() []int {
	return []int{2049, 2050, 2056, 4096, 65536}
}

// notWidths has numbers that are no widths of a low part, just outside and far away.
func notWidths() []int {
	return []int{0, 1, 2, 3, 4, 5, 6, 7, -1, -8, -64, 65, 66, 72, 128, 256 + 8, 1<<32 + 8, math.MinInt32, math.MaxInt32, math.MinInt, math.MinInt + 8, math.MaxInt}
}

// states has states of all sorts, among them each one with one bit.
func states() []uint64 {
	l := []uint64{0, firstState, math.MaxUint64, math.MaxInt64, math.MaxUint32, 1099511628211}
	for bit := range 64 {
		l = append(l, 1<<bit)
	}
	r := rand.New(rand.NewSource(1))
	for range 20 {
		l = append(l, r.Uint64())
	}
	return l
}

// random has so many words, some of which are 0, or have few bytes that are not.
func random(r *rand.Rand, n int) []uint64 {
	l := make([]uint64, n)
	for i := range l {
		switch r.Intn(4) {
		case 0:
			l[i] = uint64(r.Intn(256)) << (8 * r.Intn(8))
		case 1, 2:
			l[i] = r.Uint64()
		}
	}
	return l
}

// lists has words of all sorts.
func lists() [][]uint64 {
	l := [][]uint64{
		nil, {}, {0}, {97}, {1}, {1 << 56}, {0, 0}, {math.MaxUint64}, {0x0807060504030201}, {1, 2}, {2, 1}, {1, 2, 3},
		make([]uint64, 2048), slices.Repeat([]uint64{math.MaxUint64}, 2048),
	}
	r := rand.New(rand.NewSource(2))
	for _, n := range lengths() {
		l = append(l, random(r, n))
	}
	return l
}

// bytesOf has the bytes of words, the lowest one of each word first.
func bytesOf(l []uint64) []byte {
	var b []byte
	for _, w := range l {
		b = binary.LittleEndian.AppendUint64(b, w)
	}
	return b
}

// afterStep is the state after a step, straight from the definition: only its lowest byte is changed, and then it is multiplied.
func afterStep(state uint64, b byte) uint64 {
	changed := state/256*256 + (state%256 ^ uint64(b))
	product := new(big.Int).Mul(new(big.Int).SetUint64(changed), big.NewInt(1099511628211))
	return product.Mod(product, new(big.Int).Lsh(big.NewInt(1), 64)).Uint64()
}

func behind(state uint64, b []byte) uint64 {
	for _, x := range b {
		state = afterStep(state, x)
	}
	return state
}

func mustNext(t *testing.T, state uint64, l []uint64) uint64 {
	t.Helper()
	s, e := sum.Next(state, l)
	if e != api.OK {
		t.Fatal(e)
	}
	return s
}

func mustOf(t *testing.T, l []uint64) uint64 {
	t.Helper()
	s, e := sum.Of(l)
	if e != api.OK {
		t.Fatal(e)
	}
	return s
}

func mustLow(t *testing.T, l []uint64, width int) uint64 {
	t.Helper()
	s, e := sum.Low(l, width)
	if e != api.OK {
		t.Fatal(e)
	}
	return s
}

// The examples of the chapter. A word is eight steps: behind the one with its lowest byte, 97, there are seven with 0.
func TestExamples(t *testing.T) {
	for _, state := range states() {
		if s := mustNext(t, state, nil); s != state {
			t.Errorf("the state behind no words from %d on is %d", state, s)
		}
	}
	if s := mustOf(t, nil); s != 14695981039346656037 {
		t.Errorf("the sum of no words is %d", s)
	}
	one := uint64(12638187200555641996)
	if s := afterStep(firstState, 97); s != one {
		t.Fatalf("one step with 97 gives %d", s)
	}
	want := behind(one, make([]byte, 7))
	if s := mustOf(t, []uint64{97}); s != want {
		t.Errorf("the sum of 97 is %d, not %d", s, want)
	}
}

// P5.1: Next is the state after all steps, word by word, with the lowest byte of each one first, from any state on.
func TestNext(t *testing.T) {
	for i, l := range lists() {
		b := bytesOf(l)
		for k, state := range states() {
			if len(l) > 64 && k > 5 {
				break
			}
			if s, want := mustNext(t, state, l), behind(state, b); s != want {
				t.Errorf("the state behind the words %d from %d on is %d, not %d", i, state, s, want)
			}
		}
	}
}

// P5.1: each byte of a word is a step, at its own place.
func TestNextWithEachByte(t *testing.T) {
	for at := range 8 {
		for v := range 256 {
			var b [8]byte
			b[at] = byte(v)
			l := []uint64{uint64(v) << (8 * at)}
			for _, state := range []uint64{0, firstState, 0x0123456789abcdef} {
				if s, want := mustNext(t, state, l), behind(state, b[:]); s != want {
					t.Fatalf("the state behind the byte %d at %d from %d on is %d, not %d", v, at, state, s, want)
				}
			}
		}
	}
}

// P5.2: Of is FNV-1a with 64 bits of the bytes.
func TestOf(t *testing.T) {
	for i, l := range lists() {
		h := fnv.New64a()
		h.Write(bytesOf(l))
		if s := mustOf(t, l); s != h.Sum64() {
			t.Errorf("the sum of the words %d is %d, not %d", i, s, h.Sum64())
		}
	}
}

// P5.2: Low is the remainder of the sum, for each width from 8 to 64.
func TestLow(t *testing.T) {
	for i, l := range lists() {
		s := mustOf(t, l)
		for width := 8; width < 64; width++ {
			want := s % (1 << width)
			if low := mustLow(t, l, width); low != want {
				t.Errorf("the low part of the words %d with the width %d is %d, not %d", i, width, low, want)
			}
		}
		if low := mustLow(t, l, 64); low != s {
			t.Errorf("the low part of the words %d with the width 64 is %d, not %d", i, low, s)
		}
	}
}

// P5.2: ErrArg and nothing else for all other widths.
func TestLowWithOtherWidths(t *testing.T) {
	for i, l := range lists() {
		for _, width := range notWidths() {
			if low, e := sum.Low(l, width); low != 0 || e != api.ErrArg {
				t.Errorf("the low part of the words %d with the width %d is %d, %v", i, width, low, e)
			}
		}
	}
}

// The chapter and R1: ErrMany and nothing else if there are too many words, before the error of a width.
func TestTooManyWords(t *testing.T) {
	for _, n := range tooMany() {
		for _, l := range [][]uint64{make([]uint64, n), slices.Repeat([]uint64{0x0123456789abcdef}, n)} {
			for _, state := range states() {
				if s, e := sum.Next(state, l); s != 0 || e != api.ErrMany {
					t.Fatalf("the state behind %d words from %d on is %d, %v", n, state, s, e)
				}
			}
			if s, e := sum.Of(l); s != 0 || e != api.ErrMany {
				t.Errorf("the sum of %d words is %d, %v", n, s, e)
			}
			for _, width := range append(notWidths(), 8, 9, 32, 63, 64) {
				if s, e := sum.Low(l, width); s != 0 || e != api.ErrMany {
					t.Errorf("the low part of %d words with the width %d is %d, %v", n, width, s, e)
				}
			}
		}
	}
}

// The chapter: as many words as are allowed have a state, a sum and low parts.
func TestMostWords(t *testing.T) {
	l := slices.Repeat([]uint64{0x0123456789abcdef}, 2048)
	want := behind(firstState, bytesOf(l))
	if s := mustOf(t, l); s != want {
		t.Errorf("the sum of 2048 words is %d, not %d", s, want)
	}
	if s := mustLow(t, l, 8); s != want%256 {
		t.Errorf("the low part of 2048 words is %d, not %d", s, want%256)
	}
	// the limit is that of one call
	if s, want := mustNext(t, want, l), behind(want, bytesOf(l)); s != want {
		t.Errorf("the state behind 2048 more words is %d, not %d", s, want)
	}
}

// P5.3: the state behind words, and then behind others, is that behind all of them.
func TestParts(t *testing.T) {
	r := rand.New(rand.NewSource(3))
	for _, n := range lengths() {
		l := random(r, n)
		for range 20 {
			state, cut := r.Uint64(), r.Intn(n+1)
			half := mustNext(t, state, l[:cut])
			if s, want := mustNext(t, half, l[cut:]), mustNext(t, state, l); s != want {
				t.Errorf("the state behind %d and then %d words is %d, not %d", cut, n-cut, s, want)
			}
			half = mustOf(t, l[:cut])
			if s, want := mustNext(t, half, l[cut:]), mustOf(t, l); s != want {
				t.Errorf("the sum of %d words, and then the state behind %d others, is %d, not %d", cut, n-cut, s, want)
			}
		}
	}
}

// otherByte returns words that differ from others in one byte alone.
func otherByte(r *rand.Rand, l []uint64) []uint64 {
	o := slices.Clone(l)
	o[r.Intn(len(o))] ^= uint64(1+r.Intn(255)) << (8 * r.Intn(8))
	return o
}

// P5.3: words that differ in one byte alone have different states behind them, and sums whose low parts all differ.
func TestEachByteMatters(t *testing.T) {
	r := rand.New(rand.NewSource(4))
	for _, n := range []int{1, 2, 3, 8, 20, 2048} {
		for range 30 {
			l := random(r, n)
			o := otherByte(r, l)
			state := r.Uint64()
			if s := mustNext(t, state, l); s == mustNext(t, state, o) {
				t.Errorf("other words have the same state behind them from %d on: %d", state, s)
			}
			for width := 8; width <= 64; width++ {
				if s := mustLow(t, l, width); s == mustLow(t, o, width) {
					t.Errorf("other words have the same low part with the width %d: %d", width, s)
				}
			}
		}
	}
}

// P5.3: all bytes at one place of a word have different low parts of the least width.
func TestBytesHaveDifferentSums(t *testing.T) {
	for at := range 8 {
		seen := map[uint64]int{}
		for v := range 256 {
			low := mustLow(t, []uint64{7, uint64(v) << (8 * at), 9}, 8)
			if other, found := seen[low]; found {
				t.Errorf("the bytes %d and %d at %d have the same low part %d", v, other, at, low)
			}
			seen[low] = v
		}
	}
}

// P5.3: different states stay different behind the same words.
func TestStatesStayDifferent(t *testing.T) {
	for i, l := range lists() {
		seen := map[uint64]uint64{}
		for _, state := range states() {
			s := mustNext(t, state, l)
			if other, found := seen[s]; found && other != state {
				t.Errorf("the states %d and %d are the same behind the words %d", state, other, i)
			}
			seen[s] = state
		}
	}
}

// R2 and R3: calls only read their words, do not depend on what is behind them, and keep nothing; nil is as empty.
func TestArgumentsStay(t *testing.T) {
	for i, given := range lists() {
		all := append(slices.Clone(given), 91, 92, 93)
		l, before := all[:len(given)], slices.Clone(all)
		for range 2 {
			if mustNext(t, 5, l) != mustNext(t, 5, slices.Clip(given)) || mustOf(t, l) != mustOf(t, given) || mustLow(t, l, 9) != mustLow(t, given, 9) {
				t.Errorf("the words %d have another sum if there is more behind them", i)
			}
		}
		sum.Low(l, 7)
		if !slices.Equal(all, before) {
			t.Errorf("a call changes the words %d, or what is behind them", i)
		}
	}
	many := make([]uint64, 2049, 2060)
	sum.Next(1, many)
	sum.Of(many)
	sum.Low(many, 8)
	if !slices.Equal(many[:2060], make([]uint64, 2060)) {
		t.Error("a call changes too many words")
	}
	if mustOf(t, nil) != mustOf(t, []uint64{}) || mustLow(t, nil, 8) != mustLow(t, []uint64{}, 8) {
		t.Error("nil and empty words have different sums")
	}
}
