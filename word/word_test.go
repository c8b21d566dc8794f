package word_test

import (
	"math"
	"math/rand"
	"testing"

	"ballast/api"
	"ballast/word"
)

// sampleWords has words with patterns that show bits in wrong places, and some that follow no pattern.
func sampleWords() []uint64 {
	l := []uint64{
		0, 1, 0x1234, math.MaxUint64, 1 << 63, math.MaxUint64 - 1, math.MaxUint64 >> 1,
		0xfedcba9876543210, 0x0102030405060708, 0xaaaaaaaaaaaaaaaa, 0x5555555555555555, 0x00000000ffffffff,
	}
	r := rand.New(rand.NewSource(1))
	for range 20 {
		l = append(l, r.Uint64())
	}
	return l
}

type field struct{ from, width int }

func allFields() []field {
	var l []field
	for from := 0; from <= 63; from++ {
		for width := 1; width <= 64-from; width++ {
			l = append(l, field{from, width})
		}
	}
	return l
}

// notFields has pairs that are no field, among them those whose sum overflows.
func notFields() []field {
	l := []field{
		{0, 0}, {0, 65}, {1, 64}, {63, 2}, {60, 5}, {32, 33}, {63, 0}, {64, 0}, {64, 1}, {65, 1}, {64, -1}, {100, -40},
		{-1, 1}, {-1, 2}, {-1, 64}, {-1, 65}, {0, -1}, {63, -1}, {5, -64},
	}
	ends := []int{math.MinInt, math.MinInt + 1, math.MinInt + 64, math.MinInt32, -64, math.MaxInt32, math.MaxInt - 63, math.MaxInt - 1, math.MaxInt}
	for _, a := range ends {
		l = append(l, field{a, 1}, field{a, 64}, field{0, a}, field{63, a})
		for _, b := range ends {
			l = append(l, field{a, b})
		}
	}
	return l
}

func bit(w uint64, i int) uint64 { return w >> uint(i) % 2 }

// fieldByBits reads a field bit by bit, straight from the definition.
func fieldByBits(w uint64, f field) uint64 {
	var v uint64
	for i := f.width - 1; i >= 0; i-- {
		v = 2*v + bit(w, f.from+i)
	}
	return v
}

// fits reports whether a value is less than 2 to the power of a width.
func fits(v uint64, width int) bool { return width == 64 || v < uint64(1)<<uint(width) }

// valuesOf has some values of fields with a width: the least, the greatest, and those of the sample words.
func valuesOf(width int) []uint64 {
	l := []uint64{0, 1}
	for _, w := range sampleWords() {
		l = append(l, fieldByBits(w, field{0, width}))
	}
	return l
}

func mustSet(t *testing.T, w uint64, f field, v uint64) uint64 {
	t.Helper()
	got, e := word.Set(w, f.from, f.width, v)
	if e != api.OK {
		t.Fatalf("Set(%#x, %v, %#x): %v", w, f, v, e)
	}
	return got
}

func mustGet(t *testing.T, w uint64, f field) uint64 {
	t.Helper()
	got, e := word.Get(w, f.from, f.width)
	if e != api.OK {
		t.Fatalf("Get(%#x, %v): %v", w, f, e)
	}
	return got
}

// P1.1: the examples of the document, and ones with known results.
func TestFieldExamples(t *testing.T) {
	if v := mustGet(t, 0x1234, field{4, 8}); v != 0x23 {
		t.Errorf("field of 0x1234 is %#x, not 0x23", v)
	}
	if w := mustSet(t, 0x1234, field{4, 8}, 0xff); w != 0x1ff4 {
		t.Errorf("0x1234 set is %#x, not 0x1ff4", w)
	}
	for _, x := range []struct {
		f    field
		want uint64
	}{
		{field{0, 64}, 0xfedcba9876543210},
		{field{0, 1}, 0},
		{field{4, 1}, 1},
		{field{63, 1}, 1},
		{field{1, 63}, 0x7f6e5d4c3b2a1908},
		{field{8, 16}, 0x5432},
		{field{32, 32}, 0xfedcba98},
	} {
		if v := mustGet(t, 0xfedcba9876543210, x.f); v != x.want {
			t.Errorf("%v is %#x, not %#x", x.f, v, x.want)
		}
	}
	if w := mustSet(t, 7, field{0, 64}, 9); w != 9 {
		t.Errorf("the whole word set to 9 is %#x", w)
	}
	if w := mustSet(t, 0, field{63, 1}, 1); w != 1<<63 {
		t.Errorf("the last bit set is %#x", w)
	}
}

// P1.1: Get is the value of each field there is.
func TestGetOfEveryField(t *testing.T) {
	for _, w := range sampleWords() {
		for _, f := range allFields() {
			if v := mustGet(t, w, f); v != fieldByBits(w, f) {
				t.Fatalf("Get(%#x, %v) is %#x, not %#x", w, f, v, fieldByBits(w, f))
			}
		}
	}
}

// P1.1, P1.3: what is set is got, all bits outside of the field stay, and set to its own value it changes nothing.
func TestSetOfEveryField(t *testing.T) {
	for _, w := range sampleWords() {
		for _, f := range allFields() {
			for _, v := range []uint64{0, 1, fieldByBits(math.MaxUint64, f), fieldByBits(0xfedcba9876543210, field{0, f.width})} {
				got := mustSet(t, w, f, v)
				for i := range 64 {
					want := bit(w, i)
					if i >= f.from && i < f.from+f.width {
						want = bit(v, i-f.from)
					}
					if bit(got, i) != want {
						t.Fatalf("Set(%#x, %v, %#x) is %#x: the bit %d is wrong", w, f, v, got, i)
					}
				}
				if back := mustGet(t, got, f); back != v {
					t.Fatalf("Set(%#x, %v, %#x) has the field %#x", w, f, v, back)
				}
			}
			if got := mustSet(t, w, f, mustGet(t, w, f)); got != w {
				t.Fatalf("%#x with its own field %v is %#x", w, f, got)
			}
		}
	}
}

// P1.1: without such a field there is ErrArg, even if the value is out of range, too, and no other result.
func TestNoSuchField(t *testing.T) {
	for _, f := range notFields() {
		for _, w := range []uint64{0, math.MaxUint64} {
			if v, e := word.Get(w, f.from, f.width); v != 0 || e != api.ErrArg {
				t.Errorf("Get(%#x, %v): %#x, %v", w, f, v, e)
			}
			for _, v := range []uint64{0, 1, math.MaxUint64} {
				if got, e := word.Set(w, f.from, f.width, v); got != 0 || e != api.ErrArg {
					t.Errorf("Set(%#x, %v, %#x): %#x, %v", w, f, v, got, e)
				}
			}
		}
	}
}

// P1.1: a value is too large just if it is not less than 2 to the power of the width.
func TestSetRange(t *testing.T) {
	for _, f := range allFields() {
		first := uint64(1) << uint(f.width%64)
		for _, v := range []uint64{0, first - 1, first, first + 1, math.MaxUint64 - 1, math.MaxUint64} {
			for _, w := range []uint64{0, 0x1234, math.MaxUint64} {
				got, e := word.Set(w, f.from, f.width, v)
				if fits(v, f.width) {
					if e != api.OK {
						t.Fatalf("Set(%#x, %v, %#x): %v", w, f, v, e)
					}
				} else if got != 0 || e != api.ErrRange {
					t.Fatalf("Set(%#x, %v, %#x): %#x, %v", w, f, v, got, e)
				}
			}
		}
	}
}

// P1.3: a field that is set twice has the last value, and what it was first does not matter.
func TestSetTwice(t *testing.T) {
	words := sampleWords()
	for _, f := range allFields() {
		l := valuesOf(f.width)
		for i, v := range l {
			w := words[i%len(words)]
			first := mustSet(t, w, f, l[len(l)-1-i])
			if got, want := mustSet(t, first, f, v), mustSet(t, w, f, v); got != want {
				t.Fatalf("%v of %#x set twice: %#x, not %#x", f, w, got, want)
			}
		}
	}
}

// P1.3: fields that do not overlap may be set in any order, and keep each other's values.
func TestSetInAnyOrder(t *testing.T) {
	words := sampleWords()
	for from := 0; from < 64; from += 3 {
		for _, a := range []field{{from, 1}, {from, (65 - from) / 2}} {
			for next := a.from + a.width; next < 64; next++ {
				b := field{next, 64 - next}
				l := valuesOf(b.width)
				for i, v := range valuesOf(a.width) {
					w, u := words[i%len(words)], l[len(l)-1-i]
					one := mustSet(t, mustSet(t, w, a, v), b, u)
					other := mustSet(t, mustSet(t, w, b, u), a, v)
					if one != other || mustGet(t, one, a) != v || mustGet(t, one, b) != u {
						t.Fatalf("%v and %v of %#x: %#x and %#x", a, b, w, one, other)
					}
				}
			}
		}
	}
}

// P1.2: bytes of known words, the lowest one first.
func TestBytesExamples(t *testing.T) {
	for _, x := range []struct {
		w uint64
		b [8]byte
	}{
		{0x0102, [8]byte{2, 1, 0, 0, 0, 0, 0, 0}},
		{0, [8]byte{}},
		{math.MaxUint64, [8]byte{255, 255, 255, 255, 255, 255, 255, 255}},
		{0xfedcba9876543210, [8]byte{0x10, 0x32, 0x54, 0x76, 0x98, 0xba, 0xdc, 0xfe}},
		{1 << 63, [8]byte{0, 0, 0, 0, 0, 0, 0, 128}},
	} {
		if got := word.Bytes(x.w); got != x.b {
			t.Errorf("Bytes(%#x) is %v, not %v", x.w, got, x.b)
		}
		if got := word.Of(x.b); got != x.w {
			t.Errorf("Of(%v) is %#x, not %#x", x.b, got, x.w)
		}
	}
}

// P1.2: the bytes are the fields of the width 8.
func TestBytesAreFields(t *testing.T) {
	for _, w := range sampleWords() {
		for i, b := range word.Bytes(w) {
			if v := mustGet(t, w, field{8 * i, 8}); v != uint64(b) {
				t.Errorf("the byte %d of %#x is %#x, its field %#x", i, w, b, v)
			}
		}
	}
}

// P1.3: words and bytes are a bijection, and a word is the sum of its bytes by their places.
func TestBytesBijection(t *testing.T) {
	for _, w := range sampleWords() {
		b := word.Bytes(w)
		if got := word.Of(b); got != w {
			t.Errorf("Of(Bytes(%#x)) is %#x", w, got)
		}
		sum, power := uint64(0), uint64(1)
		for _, x := range b {
			sum += uint64(x) * power
			power *= 256
		}
		if sum != w {
			t.Errorf("the bytes of %#x sum up to %#x", w, sum)
		}
	}
	for i := range 8 {
		for x := range 256 {
			b := [8]byte{1, 2, 3, 4, 5, 6, 7, 8}
			b[i] = byte(x)
			if got := word.Bytes(word.Of(b)); got != b {
				t.Errorf("Bytes(Of(%v)) is %v", b, got)
			}
		}
	}
}

// R2, R6, R7: for all arguments the calls end without a panic, and give the same results again.
func TestCallsDependOnArgumentsAlone(t *testing.T) {
	r := rand.New(rand.NewSource(2))
	for range 20000 {
		w, v := r.Uint64(), r.Uint64()>>uint(r.Intn(64))
		f := field{r.Intn(140) - 70, r.Intn(140) - 70}
		if r.Intn(4) == 0 {
			f = field{int(r.Uint64()), int(r.Uint64())}
		}
		g1, ge1 := word.Get(w, f.from, f.width)
		s1, se1 := word.Set(w, f.from, f.width, v)
		g2, ge2 := word.Get(w, f.from, f.width)
		s2, se2 := word.Set(w, f.from, f.width, v)
		if g1 != g2 || ge1 != ge2 || s1 != s2 || se1 != se2 {
			t.Fatalf("%#x %v %#x: other results the second time", w, f, v)
		}
		isField := f.from >= 0 && f.from <= 63 && f.width >= 1 && f.width <= 64-f.from
		if isField != (ge1 == api.OK) || !isField && se1 != api.ErrArg || isField && fits(v, f.width) != (se1 == api.OK) {
			t.Fatalf("%#x %v %#x: %v %v", w, f, v, ge1, se1)
		}
	}
}
