package image_test

import (
	"math"
	"math/rand"
	"slices"
	"testing"

	"ballast/api"
	"ballast/image"
)

// far has numbers that are far from every address, and sums of which overflow.
func far() []int {
	return []int{
		math.MinInt, math.MinInt + 1, math.MinInt + 256, math.MinInt32, -4096, -256,
		4096, math.MaxInt32, math.MaxInt - 256, math.MaxInt - 255, math.MaxInt - 1, math.MaxInt,
	}
}

// around has all numbers from just below 0 to just above the number of words, and the far ones.
func around(words int) []int {
	l := far()
	for i := -2; i <= words+2; i++ {
		l = append(l, i)
	}
	return l
}

// numbered has so many words, all different, and none of them 0.
func numbered(words int) []uint64 {
	m := make([]uint64, words)
	for i := range m {
		m[i] = uint64(i)<<32 + uint64(i) + 1
	}
	return m
}

// validSizes has the numbers of words of valid images, straight from the definition.
func validSizes() []int {
	var l []int
	for words := 256; words <= 2048; words += 8 {
		l = append(l, words)
	}
	return l
}

// notImages has lists of words that are no valid image.
func notImages() [][]uint64 {
	l := [][]uint64{nil, {}}
	for _, words := range []int{1, 7, 8, 128, 248, 255, 257, 264 - 1, 300, 2047, 2049, 2056, 4096} {
		l = append(l, numbered(words))
	}
	// there is room for a valid image, but it has fewer words
	return append(l, make([]uint64, 0, 256), make([]uint64, 255, 256))
}

// withSpare returns a list of the same words with more memory behind them, and all of this memory.
func withSpare(m []uint64) (l, all []uint64) {
	all = append(slices.Clone(m), 91, 92, 93, 94, 95)
	return all[:len(m)], all
}

// spoil changes all memory of a result, also that behind its length.
func spoil(l []uint64) {
	l = l[:cap(l)]
	for i := range l {
		l[i] = ^l[i]
	}
}

func mustNew(t *testing.T, words int) []uint64 {
	t.Helper()
	m, e := image.New(words)
	if e != api.OK {
		t.Fatalf("New(%d): %v", words, e)
	}
	return m
}

func mustGet(t *testing.T, m []uint64, at, n int) []uint64 {
	t.Helper()
	l, e := image.Get(m, at, n)
	if e != api.OK {
		t.Fatalf("Get of %d words from %d, %d: %v", len(m), at, n, e)
	}
	return l
}

func mustPut(t *testing.T, m []uint64, at int, l ...uint64) []uint64 {
	t.Helper()
	o, e := image.Put(m, at, l)
	if e != api.OK {
		t.Fatalf("Put of %d words at %d into %d: %v", len(l), at, len(m), e)
	}
	return o
}

func mustDiff(t *testing.T, a, b []uint64) []int {
	t.Helper()
	l, e := image.Diff(a, b)
	if e != api.OK {
		t.Fatalf("Diff of %d and %d words: %v", len(a), len(b), e)
	}
	return l
}

// The examples of the document.
func TestExamples(t *testing.T) {
	m := mustNew(t, 256)
	if line, start, e := image.Line(m, 17); line != 2 || start != 16 || e != api.OK {
		t.Errorf("the line of 17 is %d from %d, %v", line, start, e)
	}
	if l := mustDiff(t, mustPut(t, m, 9, 5, 6), m); !slices.Equal(l, []int{9, 10}) {
		t.Errorf("with 5 and 6 from 9 on it differs at %v", l)
	}
}

// P2.1: an image is valid just if it has from 256 to 2048 words, by eights, whatever these are.
func TestCheckOfEverySize(t *testing.T) {
	valid := validSizes()
	for words := range 2200 {
		want := api.ErrBad
		if slices.Contains(valid, words) {
			want = api.OK
		}
		if e := image.Check(make([]uint64, words)); e != want {
			t.Errorf("Check of %d words 0: %v, not %v", words, e, want)
		}
		if e := image.Check(numbered(words)); e != want {
			t.Errorf("Check of %d words: %v, not %v", words, e, want)
		}
	}
	for _, m := range notImages() {
		if e := image.Check(m); e != api.ErrBad {
			t.Errorf("Check of %d words with room for %d: %v", len(m), cap(m), e)
		}
	}
	if e := image.Check(make([]uint64, 256, 300)); e != api.OK {
		t.Errorf("Check of 256 words with room for 300: %v", e)
	}
}

// P2.1: New has so many words 0, or ErrArg and nothing.
func TestNewOfEverySize(t *testing.T) {
	valid := validSizes()
	for _, words := range around(2200) {
		m, e := image.New(words)
		if !slices.Contains(valid, words) {
			if len(m) != 0 || e != api.ErrArg {
				t.Errorf("New(%d): %d words, %v", words, len(m), e)
			}
			continue
		}
		if e != api.OK || len(m) != words || image.Check(m) != api.OK {
			t.Fatalf("New(%d): %d words, %v", words, len(m), e)
		}
		for at, w := range m {
			if w != 0 {
				t.Fatalf("New(%d) has %#x at %d", words, w, at)
			}
		}
	}
}

// P2.2: Get is the words of each range there is, and ErrArg and nothing for all others.
func TestGetOfEveryRange(t *testing.T) {
	m, numbers := numbered(256), around(256)
	for _, at := range numbers {
		for _, n := range numbers {
			l, e := image.Get(m, at, n)
			if at < 0 || at > 256 || n < 0 || n > 256-at {
				if len(l) != 0 || e != api.ErrArg {
					t.Fatalf("Get(%d, %d): %d words, %v", at, n, len(l), e)
				}
			} else if e != api.OK || !slices.Equal(l, m[at:at+n]) {
				t.Fatalf("Get(%d, %d): %v, %v", at, n, l, e)
			}
		}
	}
}

// P2.2: Put has the words in each range there is and all others as before, and ErrArg and nothing where there is none.
func TestPutOfEveryRange(t *testing.T) {
	m, words := numbered(256), numbered(300)
	slices.Reverse(words)
	for _, at := range around(256) {
		for n := 0; n <= len(words); n++ {
			o, e := image.Put(m, at, words[:n])
			if at < 0 || at > 256 || n > 256-at {
				if len(o) != 0 || e != api.ErrArg {
					t.Fatalf("Put(%d) of %d words: %d words, %v", at, n, len(o), e)
				}
				continue
			}
			want := slices.Concat(m[:at], words[:n], m[at+n:])
			if e != api.OK || !slices.Equal(o, want) {
				t.Fatalf("Put(%d) of %d words: %v, %v", at, n, o, e)
			}
		}
	}
}

// P2.2: the ends of images of every size.
func TestRangesAtTheEnds(t *testing.T) {
	for _, words := range validSizes() {
		m := numbered(words)
		if l := mustGet(t, m, 0, words); !slices.Equal(l, m) {
			t.Fatalf("%d words are not got whole", words)
		}
		if l := mustGet(t, m, words-1, 1); !slices.Equal(l, m[words-1:]) {
			t.Fatalf("the last word of %d is %v", words, l)
		}
		if l := mustGet(t, m, words, 0); len(l) != 0 {
			t.Fatalf("nothing behind %d words is %v", words, l)
		}
		if o := mustPut(t, m, words); !slices.Equal(o, m) {
			t.Fatalf("nothing put behind %d words changes them", words)
		}
		if o := mustPut(t, m, words-1, 7); o[words-1] != 7 || !slices.Equal(o[:words-1], m[:words-1]) {
			t.Fatalf("the last word of %d is not put alone", words)
		}
		if o := mustPut(t, make([]uint64, words), 0, m...); !slices.Equal(o, m) {
			t.Fatalf("%d words are not put whole", words)
		}
		for _, r := range [][2]int{{words, 1}, {words - 1, 2}, {0, words + 1}, {words + 1, 0}, {-1, 1}, {-1, 0}, {0, -1}, {words, -1}} {
			if l, e := image.Get(m, r[0], r[1]); len(l) != 0 || e != api.ErrArg {
				t.Fatalf("Get(%d, %d) of %d words: %v, %v", r[0], r[1], words, l, e)
			}
			if r[1] < 0 {
				continue
			}
			if o, e := image.Put(m, r[0], make([]uint64, r[1])); len(o) != 0 || e != api.ErrArg {
				t.Fatalf("Put(%d) of %d words into %d: %d words, %v", r[0], r[1], words, len(o), e)
			}
		}
	}
}

// P2.2, P2.4: each address has one line, with eight addresses that start where Line says; others have ErrArg.
func TestLineOfEveryAddress(t *testing.T) {
	for _, words := range validSizes() {
		m := make([]uint64, words)
		addresses := make([]int, words/8)
		for _, at := range around(words) {
			line, start, e := image.Line(m, at)
			if at < 0 || at >= words {
				if line != 0 || start != 0 || e != api.ErrArg {
					t.Fatalf("Line(%d) of %d words: %d, %d, %v", at, words, line, start, e)
				}
				continue
			}
			if e != api.OK || line < 0 || line >= words/8 || start != 8*line || at < start || at > start+7 {
				t.Fatalf("Line(%d) of %d words: %d, %d, %v", at, words, line, start, e)
			}
			addresses[line]++
		}
		for line, n := range addresses {
			if n != 8 {
				t.Fatalf("the line %d of %d words has %d addresses", line, words, n)
			}
		}
	}
}

// P2.3: Diff has all addresses of words that differ, in increasing order, both ways round.
func TestDiff(t *testing.T) {
	r := rand.New(rand.NewSource(1))
	for _, words := range validSizes() {
		a := numbered(words)
		for _, changes := range []int{0, 1, 2, 9, words} {
			b := slices.Clone(a)
			for _, at := range r.Perm(words)[:changes] {
				b[at] ^= 1 << uint(r.Intn(64))
			}
			var want []int
			for at := range b {
				if a[at] != b[at] {
					want = append(want, at)
				}
			}
			if len(want) != changes {
				t.Fatalf("%d words are changed, not %d", len(want), changes)
			}
			if l := mustDiff(t, a, b); !slices.Equal(l, want) {
				t.Fatalf("%d words differ at %v, not at %v", words, l, want)
			}
			if l := mustDiff(t, b, a); !slices.Equal(l, want) {
				t.Fatalf("%d words differ, the other way, at %v, not at %v", words, l, want)
			}
		}
	}
}

// P2.3: each word and each bit of it counts, the first and the last ones too.
func TestDiffOfOneBit(t *testing.T) {
	a := numbered(256)
	for at := range a {
		for bit := range 64 {
			b := slices.Clone(a)
			b[at] ^= 1 << uint(bit)
			if l := mustDiff(t, a, b); !slices.Equal(l, []int{at}) {
				t.Fatalf("with the bit %d at %d changed they differ at %v", bit, at, l)
			}
		}
	}
}

// P2.3: images that have not as many words have ErrArg, even if one begins with the other.
func TestDiffOfOtherSizes(t *testing.T) {
	for _, x := range validSizes() {
		for _, y := range []int{256, 264, 1024, 2040, 2048} {
			if x == y {
				continue
			}
			if l, e := image.Diff(numbered(x), numbered(y)); len(l) != 0 || e != api.ErrArg {
				t.Errorf("Diff of %d and %d words: %v, %v", x, y, l, e)
			}
			if l, e := image.Diff(numbered(y), numbered(x)); len(l) != 0 || e != api.ErrArg {
				t.Errorf("Diff of %d and %d words: %v, %v", y, x, l, e)
			}
		}
	}
}

// P2.4: a store changes one word: an image with one word put differs from it there, unless this word stood there.
func TestOneWordPut(t *testing.T) {
	m := numbered(256)
	for at := range m {
		for _, w := range []uint64{0, m[at], m[at] ^ 1<<63, math.MaxUint64} {
			var want []int
			if w != m[at] {
				want = []int{at}
			}
			o := mustPut(t, m, at, w)
			if l := mustDiff(t, m, o); !slices.Equal(l, want) {
				t.Fatalf("with %#x put at %d it differs at %v", w, at, l)
			}
			if l := mustGet(t, o, at, 1); !slices.Equal(l, []uint64{w}) {
				t.Fatalf("%#x put at %d is got as %v", w, at, l)
			}
		}
	}
}

// P2.4: what was put is got, all others stay, and images differ nowhere just if they are the same.
func TestPutThenGet(t *testing.T) {
	r := rand.New(rand.NewSource(2))
	sizes := validSizes()
	for range 3000 {
		m := numbered(sizes[r.Intn(len(sizes))])
		at := r.Intn(len(m) + 1)
		words := make([]uint64, r.Intn(len(m)-at+1))
		for i := range words {
			words[i] = m[at+i] ^ r.Uint64()&r.Uint64()>>uint(r.Intn(64))
		}
		o := mustPut(t, m, at, words...)
		behind := at + len(words)
		if !slices.Equal(mustGet(t, o, at, len(words)), words) {
			t.Fatalf("%d words put at %d are not got", len(words), at)
		}
		if !slices.Equal(mustGet(t, o, 0, at), m[:at]) || !slices.Equal(mustGet(t, o, behind, len(m)-behind), m[behind:]) {
			t.Fatalf("%d words put at %d change others", len(words), at)
		}
		if same := len(mustDiff(t, m, o)) == 0; same != slices.Equal(m, o) {
			t.Fatalf("with %d words put at %d: told to be the same: %v", len(words), at, same)
		}
		if back := mustPut(t, o, at, mustGet(t, m, at, len(words))...); len(mustDiff(t, m, back)) != 0 {
			t.Fatalf("%d words put back at %d do not give the first image", len(words), at)
		}
	}
}

// R1: Check's error of the first image comes before any other, and nothing else is returned.
func TestBadImagesFirst(t *testing.T) {
	good := numbered(256)
	for _, m := range notImages() {
		for _, at := range []int{0, 1, -1, 256, len(m), len(m) - 1, math.MinInt, math.MaxInt} {
			for _, n := range []int{0, 1, -1, len(m), math.MinInt, math.MaxInt} {
				if l, e := image.Get(m, at, n); len(l) != 0 || e != api.ErrBad {
					t.Errorf("Get(%d, %d) of %d words: %v, %v", at, n, len(m), l, e)
				}
			}
			for _, n := range []int{0, 1, 300} {
				if o, e := image.Put(m, at, make([]uint64, n)); len(o) != 0 || e != api.ErrBad {
					t.Errorf("Put(%d) of %d words into %d: %d words, %v", at, n, len(m), len(o), e)
				}
			}
			if line, start, e := image.Line(m, at); line != 0 || start != 0 || e != api.ErrBad {
				t.Errorf("Line(%d) of %d words: %d, %d, %v", at, len(m), line, start, e)
			}
		}
		for _, pair := range [][2][]uint64{{m, m}, {m, good}, {good, m}} {
			if l, e := image.Diff(pair[0], pair[1]); len(l) != 0 || e != api.ErrBad {
				t.Errorf("Diff of %d and %d words: %v, %v", len(pair[0]), len(pair[1]), l, e)
			}
		}
	}
}

// R2: calls change no argument, nor the memory behind one, and their results share no memory with them.
func TestArgumentsStay(t *testing.T) {
	m, allM := withSpare(numbered(256))
	words, allWords := withSpare([]uint64{5, 6, 7})
	beforeM, beforeWords := slices.Clone(allM), slices.Clone(allWords)
	stays := func(what string) {
		t.Helper()
		if !slices.Equal(allM, beforeM) || !slices.Equal(allWords, beforeWords) {
			t.Fatalf("%s changes an argument", what)
		}
	}
	for _, r := range [][2]int{{0, 256}, {0, 0}, {256, 0}, {9, 3}, {255, 1}, {1, 255}} {
		l := mustGet(t, m, r[0], r[1])
		stays("Get")
		spoil(l)
		stays("a result of Get")
	}
	for at := range 254 {
		o := mustPut(t, m, at, words...)
		stays("Put")
		spoil(o)
		stays("a result of Put")
	}
	for _, l := range [][]uint64{nil, {}, allWords[:0]} {
		o, e := image.Put(m, 256, l)
		if e != api.OK || !slices.Equal(o, m) {
			t.Fatalf("nothing put behind the last word: %d words, %v", len(o), e)
		}
		spoil(o)
		stays("a result of Put of nothing")
	}
	image.Put(m, 254, words)
	image.Get(m, 254, 3)
	image.Line(m, 256)
	image.Check(m)
	image.Diff(m, m)
	stays("a call")
}

// R2: an image that is put into itself, or a part of it, is put as it was.
func TestPutOfItsOwnWords(t *testing.T) {
	m := numbered(256)
	if o := mustPut(t, m, 0, m...); !slices.Equal(o, m) {
		t.Error("put into itself it is another one")
	}
	want := slices.Concat(m[:3], m[:200], m[203:])
	if o := mustPut(t, m, 3, m[:200]...); !slices.Equal(o, want) {
		t.Error("its first words, put 3 words further, are others")
	}
}

// R2: results share no memory with each other, and nothing is kept.
func TestResultsAreNew(t *testing.T) {
	m := numbered(256)
	calls := []func() []uint64{
		func() []uint64 { return mustNew(t, 256) },
		func() []uint64 { return mustGet(t, m, 8, 16) },
		func() []uint64 { return mustPut(t, m, 8, 1, 2, 3) },
	}
	for i, call := range calls {
		first := call()
		kept := slices.Clone(first)
		spoil(first)
		if second := call(); !slices.Equal(second, kept) {
			t.Errorf("the call %d gives another result the second time", i)
		}
	}
	b := mustPut(t, m, 20, 0, 0)
	first := mustDiff(t, m, b)
	first[0] = -1
	if second := mustDiff(t, m, b); !slices.Equal(second, []int{20, 21}) {
		t.Errorf("Diff gives %v the second time", second)
	}
}
