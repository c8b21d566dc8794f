package super_test

import (
	"encoding/binary"
	"hash/fnv"
	"math"
	"math/rand"
	"slices"
	"testing"

	"ballast/api"
	"ballast/super"
)

const magic uint64 = 0x7473616c6c6162

// superblocks has all valid superblocks, straight from the definition.
func superblocks() []api.Super {
	var l []api.Super
	for words := 256; words <= 2048; words += 8 {
		for types := 0; types <= 8; types++ {
			l = append(l, api.Super{Words: words, Types: types})
		}
	}
	return l
}

// some has a few valid superblocks, among them those at the limits.
func some() []api.Super {
	return []api.Super{
		{Words: 256, Types: 0}, {Words: 256, Types: 2}, {Words: 256, Types: 8}, {Words: 264, Types: 1},
		{Words: 1000, Types: 5}, {Words: 1024, Types: 3}, {Words: 2040, Types: 7}, {Words: 2048, Types: 0}, {Words: 2048, Types: 8},
	}
}

// far has numbers that are far from all limits, also such whose lowest bits look like good ones.
func far() []int {
	return []int{
		math.MinInt, math.MinInt + 2, math.MinInt + 256, math.MinInt32, -4096, -2048, -256, -8,
		4096, 1<<16 + 256, 1<<31 + 256, math.MaxInt32, 1<<32 + 2, 1<<32 + 256, math.MaxInt - 7, math.MaxInt,
	}
}

// notSuperblocks has superblocks that are not valid, each for one reason alone, or for both.
func notSuperblocks() []api.Super {
	l := []api.Super{{}, {Types: 2}, {Words: 255, Types: 9}, {Words: -256, Types: -1}}
	for _, words := range append(far(), 0, 1, 7, 8, 128, 248, 252, 255, 257, 260, 263, 300, 2041, 2044, 2047, 2049, 2050, 2056) {
		l = append(l, api.Super{Words: words}, api.Super{Words: words, Types: 2}, api.Super{Words: words, Types: 8})
	}
	for _, types := range append(far(), -2, -1, 9, 10, 16, 255, 256) {
		l = append(l, api.Super{Words: 256, Types: types}, api.Super{Words: 2048, Types: types})
	}
	return l
}

// sumOf is the sum of words, by the library.
func sumOf(l []uint64) uint64 {
	h := fnv.New64a()
	for _, w := range l {
		h.Write(binary.LittleEndian.AppendUint64(nil, w))
	}
	return h.Sum64()
}

// summed has seven words, and the sum of these.
func summed(l ...uint64) []uint64 {
	return append(slices.Clone(l), sumOf(l))
}

// wordsOf has the words of a superblock, straight from the definition, also if it is not valid.
func wordsOf(s api.Super) []uint64 {
	return summed(magic, 1, uint64(s.Words), uint64(s.Types), 0, 0, 0)
}

func mustWrite(t *testing.T, s api.Super) []uint64 {
	t.Helper()
	l, e := super.Write(s)
	if e != api.OK {
		t.Fatalf("Write(%v): %v", s, e)
	}
	return l
}

func mustRead(t *testing.T, l []uint64) api.Super {
	t.Helper()
	s, e := super.Read(l)
	if e != api.OK {
		t.Fatalf("Read(%#x): %v", l, e)
	}
	return s
}

// refused checks that words are those of no superblock.
func refused(t *testing.T, l []uint64) {
	t.Helper()
	if s, e := super.Read(l); s != (api.Super{}) || e != api.ErrCorrupt {
		t.Errorf("the words %#x are those of %v, %v", l, s, e)
	}
}

// The examples of the chapter.
func TestExamples(t *testing.T) {
	l := mustWrite(t, api.Super{Words: 256, Types: 2})
	if !slices.Equal(l[:7], []uint64{0x7473616c6c6162, 1, 256, 2, 0, 0, 0}) {
		t.Errorf("the superblock with 256 words and 2 types begins with %#x", l[:7])
	}
	l[3] = 3
	refused(t, l)
}

// The limits that the chapter names are those of api.
func TestLimits(t *testing.T) {
	if api.Magic != magic || api.Version != 1 || api.MinWords != 256 || api.MaxWords != 2048 || api.Line != 8 || api.MaxTypes != 8 {
		t.Error("api has other limits than the chapter")
	}
}

// P6.1: Check allows just the superblocks of the definition.
func TestCheckOfEverySuperblock(t *testing.T) {
	valid := map[api.Super]bool{}
	for _, s := range superblocks() {
		valid[s] = true
	}
	if len(valid) != 225*9 {
		t.Fatalf("there are %d valid superblocks", len(valid))
	}
	for words := -10; words <= 2070; words++ {
		for types := -3; types <= 12; types++ {
			s, want := api.Super{Words: words, Types: types}, api.ErrBad
			if valid[s] {
				want = api.OK
			}
			if e := super.Check(s); e != want {
				t.Errorf("Check(%v): %v, not %v", s, e, want)
			}
		}
	}
	for _, s := range notSuperblocks() {
		if e := super.Check(s); e != api.ErrBad {
			t.Errorf("Check(%v): %v", s, e)
		}
	}
}

// P6.1: Write has the eight words of the definition, for each valid superblock.
func TestWriteOfEverySuperblock(t *testing.T) {
	for _, s := range superblocks() {
		if l, want := mustWrite(t, s), wordsOf(s); !slices.Equal(l, want) {
			t.Errorf("the words of %v are %#x, not %#x", s, l, want)
		}
	}
}

// P6.1: Write has Check's error and no words if a superblock is not valid.
func TestWriteOfOthers(t *testing.T) {
	for _, s := range notSuperblocks() {
		if l, e := super.Write(s); len(l) != 0 || e != api.ErrBad {
			t.Errorf("Write(%v): %#x, %v", s, l, e)
		}
	}
}

// P6.2: Read has the superblock of its words, for each valid one.
func TestReadOfEverySuperblock(t *testing.T) {
	for _, s := range superblocks() {
		if o := mustRead(t, wordsOf(s)); o != s {
			t.Errorf("the words of %v are read as %v", s, o)
		}
	}
}

// P6.2 and R1: ErrArg and nothing else unless there are eight words, whatever they are.
func TestReadOfOtherLengths(t *testing.T) {
	good := wordsOf(api.Super{Words: 256, Types: 2})
	lists := [][]uint64{nil, {}, make([]uint64, 0, 8), good[1:], append(slices.Clone(good), good...), make([]uint64, 2048), make([]uint64, 2049)}
	for n := range 8 {
		lists = append(lists, good[:n], make([]uint64, n), summed(good[:n]...)[:n])
	}
	for n := 9; n <= 40; n++ {
		lists = append(lists, append(slices.Clone(good), make([]uint64, n-8)...), make([]uint64, n))
	}
	for _, l := range lists {
		if s, e := super.Read(l); s != (api.Super{}) || e != api.ErrArg {
			t.Errorf("%d words are those of %v, %v", len(l), s, e)
		}
	}
}

// P6.2: the words of a superblock that is not valid are those of none, although their sum is right.
func TestReadOfNotValid(t *testing.T) {
	for _, s := range notSuperblocks() {
		refused(t, wordsOf(s))
	}
	for words := range uint64(2100) {
		if words < 256 || words > 2048 || words%8 != 0 {
			refused(t, summed(magic, 1, words, 2, 0, 0, 0))
		}
	}
	for types := uint64(9); types < 300; types++ {
		refused(t, summed(magic, 1, 256, types, 0, 0, 0))
	}
	for bit := 12; bit < 64; bit++ {
		refused(t, summed(magic, 1, 256|1<<bit, 2, 0, 0, 0))
		refused(t, summed(magic, 1, 256, 2|1<<bit, 0, 0, 0))
	}
	refused(t, summed(magic, 1, math.MaxUint64, 2, 0, 0, 0))
	refused(t, summed(magic, 1, math.MaxUint64-7, 2, 0, 0, 0))
	refused(t, summed(magic, 1, 256, math.MaxUint64, 0, 0, 0))
}

// P6.2: each of the first seven words is as the definition has it, although the sum is right.
func TestReadOfOtherWords(t *testing.T) {
	for _, s := range some() {
		for at := range 7 {
			if at == 2 || at == 3 {
				continue
			}
			l := wordsOf(s)[:7]
			right := l[at]
			wrong := []uint64{0, 1, 2, 3, 256, magic, magic + 1, math.MaxUint32, math.MaxUint64, 1<<32 | right}
			for bit := range 64 {
				wrong = append(wrong, right^1<<bit)
			}
			for _, l[at] = range wrong {
				if l[at] != right {
					refused(t, summed(l...))
				}
			}
		}
	}
}

// P6.2: no other sum is right, also not that of other parts, and also not for words that are all the same.
func TestReadOfOtherSums(t *testing.T) {
	for _, s := range some() {
		l := wordsOf(s)
		right := l[7]
		wrong := []uint64{0, 1, math.MaxUint64, ^right, right + 1, right - 1, right & math.MaxUint32, sumOf(nil), sumOf(l), sumOf(l[:4]), sumOf(l[:6]), sumOf(l[1:7])}
		for _, l[7] = range wrong {
			refused(t, l)
		}
	}
	for _, w := range []uint64{0, 1, 8, 256, magic, math.MaxUint64} {
		refused(t, slices.Repeat([]uint64{w}, 8))
		refused(t, summed(slices.Repeat([]uint64{w}, 7)...))
	}
}

// P6.2: the words of a superblock are those of none in another order.
func TestReadInAnotherOrder(t *testing.T) {
	l := wordsOf(api.Super{Words: 256, Types: 2})
	for i := range l {
		for k := range i {
			o := slices.Clone(l)
			o[i], o[k] = o[k], o[i]
			if slices.Equal(o, l) {
				continue
			}
			refused(t, o)
			refused(t, summed(o[:7]...))
		}
	}
}

// P6.3: what is written is read as it, and what is read has just these words.
func TestWriteAndRead(t *testing.T) {
	for _, s := range superblocks() {
		l := mustWrite(t, s)
		o := mustRead(t, l)
		if o != s {
			t.Errorf("what is written for %v is read as %v", s, o)
		}
		if again := mustWrite(t, o); !slices.Equal(again, l) {
			t.Errorf("what is read from %#x has the words %#x", l, again)
		}
	}
}

// P6.3: different superblocks have different words, of which the first two are the same.
func TestWordsDiffer(t *testing.T) {
	seen := map[[8]uint64]api.Super{}
	for _, s := range superblocks() {
		l := [8]uint64(mustWrite(t, s))
		if other, found := seen[l]; found {
			t.Errorf("%v and %v have the same words", s, other)
		}
		seen[l] = s
		if l[0] != magic || l[1] != 1 {
			t.Errorf("the first two words of %v are %#x", s, l[:2])
		}
	}
}

// P6.3: with one byte that is another one, in any of the words, they are those of no superblock.
func TestEachByteMatters(t *testing.T) {
	for _, s := range some() {
		l := mustWrite(t, s)
		for at := range l {
			right := l[at]
			for place := range 8 {
				for change := uint64(1); change < 256; change++ {
					l[at] = right ^ change<<(8*place)
					refused(t, l)
				}
			}
			l[at] = right
		}
	}
}

// P6.2 and R7: any words end without a panic; if they are read, they are just those of what is read.
func TestReadOfAnyWords(t *testing.T) {
	r := rand.New(rand.NewSource(1))
	read := 0
	for range 20000 {
		l := wordsOf(api.Super{Words: 8 * r.Intn(300), Types: r.Intn(12)})
		for range r.Intn(3) {
			l[r.Intn(8)] = r.Uint64() >> r.Intn(64)
		}
		if r.Intn(2) == 0 {
			l[7] = sumOf(l[:7])
		}
		s, e := super.Read(l)
		if e == api.OK {
			read++
			if want := wordsOf(s); !slices.Equal(l, want) || super.Check(s) != api.OK {
				t.Errorf("the words %#x are read as %v", l, s)
			}
		} else if e != api.ErrCorrupt || s != (api.Super{}) {
			t.Errorf("the words %#x are those of %v, %v", l, s, e)
		}
	}
	if read == 0 {
		t.Error("nothing was read")
	}
}

// R2 and R3: words are only read, what is behind them does not matter, and nothing is kept.
func TestArgumentsStay(t *testing.T) {
	for _, s := range some() {
		good := wordsOf(s)
		bad := slices.Clone(good)
		bad[5] = 1
		for _, n := range []int{8, 0, 7, 12} {
			for _, given := range [][]uint64{good, bad} {
				all := append(slices.Clone(given), 91, 92, 93, 94)
				before := slices.Clone(all)
				first, e1 := super.Read(all[:n])
				second, e2 := super.Read(slices.Clone(before[:n]))
				if first != second || e1 != e2 {
					t.Errorf("%#x is %v, %v, and then %v, %v", before[:n], first, e1, second, e2)
				}
				if !slices.Equal(all, before) {
					t.Errorf("Read changes %#x, or what is behind it: %#x", before, all)
				}
			}
		}
	}
}

// R2: words that are returned are new each time.
func TestResultsAreNew(t *testing.T) {
	for _, s := range some() {
		l := mustWrite(t, s)
		whole := l[:cap(l)]
		for i := range whole {
			whole[i] = ^whole[i]
		}
		if again := mustWrite(t, s); !slices.Equal(again, wordsOf(s)) {
			t.Errorf("after a result was changed, the words of %v are %#x", s, again)
		}
		if o := mustRead(t, wordsOf(s)); o != s {
			t.Errorf("after a result was changed, %v is read as %v", s, o)
		}
	}
}
