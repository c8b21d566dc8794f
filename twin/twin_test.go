package twin_test

import (
	"encoding/binary"
	"hash/fnv"
	"math"
	"math/rand"
	"slices"
	"testing"

	"ballast/api"
	"ballast/twin"
)

const magic uint64 = 0x7473616c6c6162

// sizes has numbers of words of images, among them the least and the greatest one.
var sizes = []int{256, 264, 1000, 1024, 2040, 2048}

// sumOf is the sum of words, by the library.
func sumOf(l []uint64) uint64 {
	h := fnv.New64a()
	for _, w := range l {
		h.Write(binary.LittleEndian.AppendUint64(nil, w))
	}
	return h.Sum64()
}

// wordsOf has the words of a superblock, straight from the definition, also if it is not valid.
func wordsOf(words, types int) []uint64 {
	l := []uint64{magic, 1, uint64(words), uint64(types), 0, 0, 0}
	return append(l, sumOf(l))
}

// changed has words with another one at a place.
func changed(l []uint64, at int, w uint64) []uint64 {
	o := slices.Clone(l)
	o[at] = w
	return o
}

// resummed has eight words with the right sum of the first seven ones.
func resummed(l []uint64) []uint64 {
	return changed(l, 7, sumOf(l[:7]))
}

// with has an image with two copies, and different words behind them.
func with(words int, first, second []uint64) []uint64 {
	m := make([]uint64, words)
	for i := range m {
		m[i] = uint64(i)<<32 + uint64(i) + 1
	}
	copy(m, first)
	copy(m[8:], second)
	return m
}

// twins has an image with two copies of a superblock.
func twins(words, types int) []uint64 {
	return with(words, wordsOf(words, types), wordsOf(words, types))
}

// rightCopies has the words of all superblocks of images with so many words.
func rightCopies(words int) [][]uint64 {
	var l [][]uint64
	for types := 0; types <= 8; types++ {
		l = append(l, wordsOf(words, types))
	}
	return l
}

// wrongCopies has eight words each that are no right copy in an image with so many words: those of superblocks of other images, of superblocks that are not valid, and of none.
func wrongCopies(words int) [][]uint64 {
	good := wordsOf(words, 2)
	l := [][]uint64{
		make([]uint64, 8), slices.Repeat([]uint64{math.MaxUint64}, 8), slices.Repeat([]uint64{magic}, 8),
		wordsOf(words, 9), wordsOf(words, -1), wordsOf(words-1, 2), wordsOf(-words, 2), wordsOf(0, 2), wordsOf(4096, 2),
		append(slices.Clone(good[1:]), good[0]), append([]uint64{0}, good[:7]...), append(slices.Clone(good[4:]), good[:4]...),
	}
	for _, other := range append(sizes, 512, words-8, words+8) {
		if other != words {
			l = append(l, wordsOf(other, 2), wordsOf(other, 0), resummed(wordsOf(other, 8)))
		}
	}
	for at, w := range good {
		l = append(l, changed(good, at, w+1), changed(good, at, w^1<<63))
		if at != 3 && at != 7 {
			l = append(l, resummed(changed(good, at, w+1)), resummed(changed(good, at, w^1<<40)))
		}
	}
	return l
}

// images has images with each two copies, of which one at least is right.
func images(words int) [][]uint64 {
	var l [][]uint64
	for _, good := range rightCopies(words) {
		for _, other := range rightCopies(words) {
			l = append(l, with(words, good, other))
		}
		for _, bad := range wrongCopies(words) {
			l = append(l, with(words, good, bad), with(words, bad, good))
		}
	}
	return l
}

// isRight tells, straight from the definition, whether a copy of an image is right, and of how many types.
func isRight(m, place []uint64) (int, bool) {
	for types := range 9 {
		if slices.Equal(place, wordsOf(len(m), types)) {
			return types, true
		}
	}
	return 0, false
}

// wanted is what Read has to return for an image, straight from the definition.
func wanted(m []uint64) (api.Super, [2]bool, api.Errno) {
	first, firstRight := isRight(m, m[:8])
	second, secondRight := isRight(m, m[8:16])
	right := [2]bool{firstRight, secondRight}
	if firstRight {
		return api.Super{Words: len(m), Types: first}, right, api.OK
	}
	if secondRight {
		return api.Super{Words: len(m), Types: second}, right, api.OK
	}
	return api.Super{}, right, api.ErrCorrupt
}

// differences has the words of the second one of two images that the first one has not, with their addresses.
func differences(a, b []uint64) []api.Entry {
	var l []api.Entry
	for at := range b {
		if a[at] != b[at] {
			l = append(l, api.Entry{At: at, Value: b[at]})
		}
	}
	return l
}

// notImages has words that are no image, although both copies are right as far as there are any.
func notImages() [][]uint64 {
	l := [][]uint64{nil, {}, make([]uint64, 0, 256), make([]uint64, 255), make([]uint64, 2056)}
	for _, words := range []int{8, 15, 16, 17, 128, 248, 255, 257, 260, 1001, 2047, 2049, 2056, 4096} {
		l = append(l, twins(words, 2), make([]uint64, words), with(words, wordsOf(256, 2), wordsOf(256, 2)))
	}
	return append(l, wordsOf(256, 2), twins(256, 2)[:16], twins(256, 2)[:255], twins(2048, 8)[:2047])
}

func mustView(t *testing.T, m []uint64) []uint64 {
	t.Helper()
	v, e := twin.View(m)
	if e != api.OK {
		t.Fatalf("View of %d words that begin with %#x: %v", len(m), m[:16], e)
	}
	return v
}

func mustHeal(t *testing.T, m []uint64) []api.Entry {
	t.Helper()
	l, e := twin.Heal(m)
	if e != api.OK {
		t.Fatalf("Heal of %d words that begin with %#x: %v", len(m), m[:16], e)
	}
	return l
}

// reads checks what Read returns.
func reads(t *testing.T, m []uint64, s api.Super, right [2]bool, e api.Errno) {
	t.Helper()
	if os, oright, oe := twin.Read(m); os != s || oright != right || oe != e {
		t.Errorf("Read of %d words: %v, %v, %v, not %v, %v, %v", len(m), os, oright, oe, s, right, e)
	}
}

// refused checks that all functions return an error, and nothing else.
func refused(t *testing.T, m []uint64, e api.Errno) {
	t.Helper()
	reads(t, m, api.Super{}, [2]bool{}, e)
	if v, oe := twin.View(m); len(v) != 0 || oe != e {
		t.Errorf("View of %d words: %d words, %v, not %v", len(m), len(v), oe, e)
	}
	if l, oe := twin.Heal(m); len(l) != 0 || oe != e {
		t.Errorf("Heal of %d words: %v, %v, not %v", len(m), l, oe, e)
	}
}

// The example of the chapter.
func TestExample(t *testing.T) {
	m := twins(256, 5)
	m[2] = 0
	reads(t, m, api.Super{Words: 256, Types: 5}, [2]bool{false, true}, api.OK)
	if l := mustHeal(t, m); !slices.Equal(l, []api.Entry{{At: 2, Value: 256}}) {
		t.Errorf("Heal tells %v", l)
	}
}

// The numbers that the chapter names are those of api.
func TestNumbers(t *testing.T) {
	if api.SuperStart != 0 || api.TwinStart != 8 || api.ErrBad != 8 || api.ErrCorrupt != 50 {
		t.Error("api has other numbers than the chapter")
	}
}

// P7.1: an image with two copies of a superblock has this one, for each superblock.
func TestReadOfEverySuperblock(t *testing.T) {
	for words := 256; words <= 2048; words += 8 {
		for types := 0; types <= 8; types++ {
			reads(t, twins(words, types), api.Super{Words: words, Types: types}, [2]bool{true, true}, api.OK)
		}
	}
}

// P7.1: the superblock is that of the first copy that is right, whatever the other one is.
func TestReadOfEachTwo(t *testing.T) {
	for _, words := range sizes {
		for _, m := range images(words) {
			s, right, e := wanted(m)
			if e != api.OK {
				t.Fatalf("no copy of %#x is right", m[:16])
			}
			reads(t, m, s, right, api.OK)
		}
	}
}

// P7.1: if both copies are right, with other superblocks, that of the first one is the image's.
func TestReadOfTwoSuperblocks(t *testing.T) {
	for _, words := range sizes {
		for first := range 9 {
			for second := range 9 {
				m := with(words, wordsOf(words, first), wordsOf(words, second))
				reads(t, m, api.Super{Words: words, Types: first}, [2]bool{true, true}, api.OK)
			}
		}
	}
}

// P7.1: the copy of a superblock with other words than the image has is not right.
func TestReadOfOtherSizes(t *testing.T) {
	m := with(256, wordsOf(264, 1), wordsOf(256, 3))
	reads(t, m, api.Super{Words: 256, Types: 3}, [2]bool{false, true}, api.OK)
	m = with(256, wordsOf(256, 3), wordsOf(2048, 3))
	reads(t, m, api.Super{Words: 256, Types: 3}, [2]bool{true, false}, api.OK)
	for _, words := range sizes {
		for _, other := range sizes {
			if other != words {
				refused(t, with(words, wordsOf(other, 2), wordsOf(other, 2)), api.ErrCorrupt)
			}
		}
	}
}

// All functions: ErrCorrupt and nothing else if neither copy is right.
func TestNoneRight(t *testing.T) {
	for _, words := range sizes {
		bad := wrongCopies(words)
		for _, first := range bad {
			for _, second := range bad {
				refused(t, with(words, first, second), api.ErrCorrupt)
			}
		}
		refused(t, make([]uint64, words), api.ErrCorrupt)
	}
}

// All functions: words that stand at other places are no copies.
func TestCopiesElsewhere(t *testing.T) {
	for _, words := range sizes {
		good, blank := wordsOf(words, 2), make([]uint64, 16)
		for at := 1; at <= words-8; at++ {
			m := with(words, blank[:8], blank[8:])
			copy(m[at:], good)
			if at != 8 {
				refused(t, m, api.ErrCorrupt)
			}
		}
	}
}

// All functions and R1: image.Check's error comes first, whether copies are right or not.
func TestNotImages(t *testing.T) {
	for _, m := range notImages() {
		refused(t, m, api.ErrBad)
	}
}

// P7.2: View has the words of the superblock in both copies, and Heal tells just what it changes, in order.
func TestViewAndHeal(t *testing.T) {
	for _, words := range sizes {
		for _, m := range images(words) {
			s, _, _ := wanted(m)
			good := wordsOf(words, s.Types)
			want := with(words, good, good)
			if v := mustView(t, m); !slices.Equal(v, want) {
				t.Errorf("behind healing, %#x is %#x", m[:16], v[:16])
			}
			if l := mustHeal(t, m); !slices.Equal(l, differences(m, want)) {
				t.Errorf("Heal of %#x tells %v, not %v", m[:16], l, differences(m, want))
			}
		}
	}
}

// P7.2: if both copies are right, the second one is healed if it has another superblock.
func TestHealOfTwoSuperblocks(t *testing.T) {
	m := with(256, wordsOf(256, 2), wordsOf(256, 3))
	want := []api.Entry{{At: 11, Value: 2}, {At: 15, Value: wordsOf(256, 2)[7]}}
	if l := mustHeal(t, m); !slices.Equal(l, want) {
		t.Errorf("Heal tells %v, not %v", l, want)
	}
	if v := mustView(t, m); !slices.Equal(v, twins(256, 2)) {
		t.Errorf("behind healing it is %#x", v[:16])
	}
}

// P7.2: nothing is healed where both copies have the superblock, and everything of a copy where nothing is as it was.
func TestHealOfNothingAndAll(t *testing.T) {
	for _, words := range sizes {
		m := twins(words, 4)
		if l := mustHeal(t, m); len(l) != 0 {
			t.Errorf("Heal of two copies of a superblock tells %v", l)
		}
		if v := mustView(t, m); !slices.Equal(v, m) {
			t.Errorf("behind healing, two copies are %#x", v[:16])
		}
		for _, start := range []int{0, 8} {
			o := slices.Clone(m)
			for at := start; at < start+8; at++ {
				o[at] = ^o[at]
			}
			if l := mustHeal(t, o); len(l) != 8 || l[0].At != start || l[7].At != start+7 {
				t.Errorf("Heal of the copy at %d tells %v", start, l)
			}
		}
	}
}

// P7.3: one byte that is another one, in any word of one copy, is healed by the other copy.
func TestEachByteIsHealed(t *testing.T) {
	for _, words := range []int{256, 2048} {
		m := twins(words, 5)
		for at := range 16 {
			old := m[at]
			want := []api.Entry{{At: at, Value: old}}
			for place := range 8 {
				for change := uint64(1); change < 256; change++ {
					m[at] = old ^ change<<(8*place)
					reads(t, m, api.Super{Words: words, Types: 5}, [2]bool{at >= 8, at < 8}, api.OK)
					if l := mustHeal(t, m); !slices.Equal(l, want) {
						t.Errorf("Heal tells %v, not %v", l, want)
					}
				}
			}
			m[at] = old
		}
	}
}

// P7.3: whatever is in the place of one copy, the image has its superblock, unless another one stands in the first place.
func TestOneCopySpoilt(t *testing.T) {
	r := rand.New(rand.NewSource(1))
	for _, words := range sizes {
		m := twins(words, 5)
		places := append(wrongCopies(words), rightCopies(words)...)
		for range 300 {
			place := wordsOf(words, 5)
			for range r.Intn(9) {
				place[r.Intn(8)] = r.Uint64() >> r.Intn(64)
			}
			places = append(places, place)
		}
		for _, place := range places {
			types, right := isRight(m, place)
			o := with(words, place, m[8:16])
			want := m
			if right {
				want = twins(words, types)
			}
			if v := mustView(t, o); !slices.Equal(v, want) {
				t.Errorf("with %#x in the first place it is %#x", place, v[:16])
			}
			if v := mustView(t, with(words, m[:8], place)); !slices.Equal(v, m) {
				t.Errorf("with %#x in the second place it is %#x", place, v[:16])
			}
		}
	}
}

// P7.3: after healing both copies are right, no other word and one copy at most is changed, and healing again changes nothing.
func TestBehindHealing(t *testing.T) {
	for _, words := range sizes {
		for _, m := range images(words) {
			s, _, _ := twin.Read(m)
			l := mustHeal(t, m)
			healed := slices.Clone(m)
			for i, entry := range l {
				healed[entry.At] = entry.Value
				if entry.At < 0 || entry.At >= 16 || entry.At/8 != l[0].At/8 || i > 0 && entry.At <= l[i-1].At {
					t.Errorf("Heal of %#x tells %v", m[:16], l)
				}
			}
			if v := mustView(t, m); !slices.Equal(v, healed) {
				t.Errorf("View and Heal of %#x do not agree", m[:16])
			}
			reads(t, healed, s, [2]bool{true, true}, api.OK)
			if again := mustHeal(t, healed); len(again) != 0 {
				t.Errorf("healing %#x again changes %v", m[:16], again)
			}
			if again := mustView(t, healed); !slices.Equal(again, healed) {
				t.Errorf("healing %#x again gives %#x", m[:16], again[:16])
			}
		}
	}
}

// R7: calls with any words end without a panic, and agree with the definition.
func TestAnyWords(t *testing.T) {
	r := rand.New(rand.NewSource(2))
	healed, corrupt := 0, 0
	for range 5000 {
		words := 256 + 8*r.Intn(225)
		m := with(words, wordsOf(words+8*r.Intn(2), r.Intn(11)-1), wordsOf(words+8*r.Intn(2), r.Intn(11)-1))
		for range r.Intn(3) {
			m[r.Intn(16)] = r.Uint64() >> r.Intn(64)
		}
		s, right, e := wanted(m)
		if e != api.OK {
			corrupt++
			refused(t, m, e)
			continue
		}
		reads(t, m, s, right, e)
		good := wordsOf(words, s.Types)
		want := with(words, good, good)
		if l := mustHeal(t, m); !slices.Equal(l, differences(m, want)) {
			t.Errorf("Heal of %#x tells %v", m[:16], l)
		}
		if v := mustView(t, m); !slices.Equal(v, want) {
			t.Errorf("behind healing, %#x is %#x", m[:16], v[:16])
		}
		healed++
	}
	if healed == 0 || corrupt == 0 {
		t.Errorf("%d images were healed, and %d had no superblock", healed, corrupt)
	}
}

// R2: images are only read, what is behind them does not matter, and nothing is kept.
func TestArgumentsStay(t *testing.T) {
	good, bad := wordsOf(256, 2), wordsOf(264, 2)
	for _, m := range [][]uint64{twins(256, 2), with(256, good, bad), with(256, bad, good), with(256, bad, bad), twins(255, 2)} {
		all := append(slices.Clone(m), 91, 92, 93, 94)
		before := slices.Clone(all)
		given := all[:len(m)]
		s1, right1, e1 := twin.Read(given)
		v1, _ := twin.View(given)
		l1, _ := twin.Heal(given)
		s2, right2, e2 := twin.Read(m)
		v2, _ := twin.View(m)
		l2, _ := twin.Heal(m)
		if s1 != s2 || right1 != right2 || e1 != e2 || !slices.Equal(v1, v2) || !slices.Equal(l1, l2) {
			t.Errorf("%#x is another image the second time", m[:16])
		}
		if !slices.Equal(all, before) {
			t.Errorf("an image, or what is behind it, is changed: %#x", all[:16])
		}
	}
}

// R2: results are new each time, and share no memory with images, also if there is nothing to heal.
func TestResultsAreNew(t *testing.T) {
	good, bad := wordsOf(256, 2), wordsOf(264, 2)
	for _, m := range [][]uint64{twins(256, 2), with(256, good, bad), with(256, bad, good)} {
		before := slices.Clone(m)
		v, l := mustView(t, m), mustHeal(t, m)
		keptView, keptHeal := slices.Clone(v), slices.Clone(l)
		v, l = v[:cap(v)], l[:cap(l)]
		for i := range v {
			v[i] = ^v[i]
		}
		for i := range l {
			l[i] = api.Entry{At: -1}
		}
		if !slices.Equal(m, before) {
			t.Error("a result shares memory with the image")
		}
		if again := mustView(t, m); !slices.Equal(again, keptView) {
			t.Errorf("after a result was changed, View gives %#x", again[:16])
		}
		if again := mustHeal(t, m); !slices.Equal(again, keptHeal) {
			t.Errorf("after a result was changed, Heal tells %v", again)
		}
	}
}
