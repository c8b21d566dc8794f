package entry_test

import (
	"math"
	"math/rand"
	"slices"
	"testing"

	"ballast/api"
	"ballast/entry"
)

// sizes has numbers of words of images, among them the least and the greatest one.
var sizes = []int{256, 264, 1000, 1024, 2040, 2048}

// notSizes has numbers of words that no image has.
var notSizes = []int{
	math.MinInt, math.MinInt + 8, -2048, -256, -8, -1, 0, 1, 8, 128, 248, 255, 257, 260, 263, 1001,
	2047, 2049, 2052, 2056, 4096, 1 << 32, 1<<32 + 256, math.MaxInt - 7, math.MaxInt,
}

// may tells, straight from the definition, whether an address may be changed.
func may(at, words int) bool {
	return at >= 16 && at < words && (at < 24 || at > 95)
}

// open has the addresses that may be changed, in increasing order.
func open(words int) []int {
	var l []int
	for at := range words {
		if may(at, words) {
			l = append(l, at)
		}
	}
	return l
}

// closed has addresses that may not be changed.
func closed(words int) []int {
	l := []int{math.MinInt, math.MinInt32, -words, -130, -16, -8, -1, words, words + 1, words + 8, words + 16, 2 * words, 2048, 2049, 4096, 1<<32 + 16, 1<<32 + 130, math.MaxInt32, math.MaxInt - 1, math.MaxInt}
	for at := range 96 {
		if at < 16 || at >= 24 {
			l = append(l, at)
		}
	}
	return l
}

// entriesAt has an entry for each address, with different values.
func entriesAt(ats ...int) []api.Entry {
	var l []api.Entry
	for i, at := range ats {
		l = append(l, api.Entry{At: at, Value: uint64(i+1)<<40 + uint64(i) + 7})
	}
	return l
}

// changes has changes of all lengths for a device of so many words, in many orders, at the first and the last addresses among others.
func changes(words int) [][]api.Entry {
	all := open(words)
	r := rand.New(rand.NewSource(int64(words)))
	l := [][]api.Entry{nil, {}}
	for n := 1; n <= 32; n++ {
		first, last := slices.Clone(all[:n]), slices.Clone(all[len(all)-n:])
		slices.Reverse(last)
		l = append(l, entriesAt(first...), entriesAt(last...))
		for range 4 {
			var ats []int
			for _, i := range r.Perm(len(all))[:n] {
				ats = append(ats, all[i])
			}
			o := entriesAt(ats...)
			for i := range o {
				o[i].Value = r.Uint64() >> r.Intn(64)
			}
			l = append(l, o)
		}
	}
	return append(l,
		[]api.Entry{{At: 16}}, []api.Entry{{At: words - 1, Value: math.MaxUint64}},
		[]api.Entry{{At: 130, Value: 5}, {At: 131, Value: 5}}, []api.Entry{{At: 130, Value: 131}, {At: 131, Value: 130}})
}

// notChanges has lists of at most 32 entries that are no change: one address may not be changed, or two are the same.
func notChanges(words int) [][]api.Entry {
	var l [][]api.Entry
	good := open(words)
	for _, bad := range closed(words) {
		l = append(l, entriesAt(bad), entriesAt(130, bad), entriesAt(bad, 130))
		full := slices.Clone(good[:32])
		for _, i := range []int{0, 15, 31} {
			l = append(l, entriesAt(slices.Concat(full[:i], []int{bad}, full[i+1:])...))
		}
	}
	for _, at := range []int{16, 17, 23, 96, 111, 128, 200, words - 1} {
		l = append(l, entriesAt(at, at), entriesAt(at, 130, at), entriesAt(129, at, at), entriesAt(at, at, at))
		l = append(l, []api.Entry{{At: at, Value: 5}, {At: at, Value: 5}})
		l = append(l, entriesAt(append(slices.Clone(good[len(good)-32:len(good)-2]), at, at)...))
	}
	return append(l, make([]api.Entry, 1), make([]api.Entry, 2), make([]api.Entry, 32))
}

// isChange tells, straight from the definition, whether entries are a change.
func isChange(l []api.Entry, words int) bool {
	for i, x := range l {
		if !may(x.At, words) {
			return false
		}
		for _, y := range l[:i] {
			if x.At == y.At {
				return false
			}
		}
	}
	return len(l) <= 32
}

// wordsOf has the words of entries, straight from the definition.
func wordsOf(l []api.Entry) []uint64 {
	var w []uint64
	for _, x := range l {
		w = append(w, uint64(x.At), x.Value)
	}
	return w
}

// applied has an image with the values of entries at their addresses.
func applied(m []uint64, l []api.Entry) []uint64 {
	o := slices.Clone(m)
	for _, x := range l {
		o[x.At] = x.Value
	}
	return o
}

// anImage has an image of different words, none of which is an address.
func anImage(words int) []uint64 {
	m := make([]uint64, words)
	for i := range m {
		m[i] = uint64(i)<<32 + 1<<30 + uint64(i)
	}
	return m
}

// withJournal has an image with words in its journal.
func withJournal(words int, w []uint64) []uint64 {
	m := anImage(words)
	copy(m[32:], w)
	return m
}

// notImages has words that are no image, although there is a change of two entries in the place of the journal as far as there is one.
func notImages() [][]uint64 {
	l := [][]uint64{nil, {}, make([]uint64, 0, 256)}
	for _, words := range []int{1, 8, 31, 32, 36, 96, 128, 248, 255, 257, 260, 1001, 2047, 2049, 2056, 4096} {
		m := anImage(words)
		if words >= 36 {
			copy(m[32:], []uint64{16, 5, 17, 6})
		}
		l = append(l, m)
	}
	return append(l, anImage(256)[:255], anImage(2048)[:2047])
}

// checks checks what Check, and with it Words, return.
func checks(t *testing.T, l []api.Entry, words int, e api.Errno) {
	t.Helper()
	if oe := entry.Check(l, words); oe != e {
		t.Errorf("Check of %v with %d words: %v, not %v", l, words, oe, e)
	}
	w, oe := entry.Words(l, words)
	if oe != e {
		t.Errorf("Words of %v with %d words: %v, not %v", l, words, oe, e)
	}
	if e != api.OK && len(w) != 0 {
		t.Errorf("Words of %v with %d words: %v with an error", l, words, w)
	}
}

func mustWords(t *testing.T, l []api.Entry, words int) []uint64 {
	t.Helper()
	w, e := entry.Words(l, words)
	if e != api.OK {
		t.Fatalf("Words of %v with %d words: %v", l, words, e)
	}
	return w
}

func mustApply(t *testing.T, m []uint64, l []api.Entry) []uint64 {
	t.Helper()
	o, e := entry.Apply(m, l)
	if e != api.OK {
		t.Fatalf("Apply of %v to %d words: %v", l, len(m), e)
	}
	return o
}

// reads checks what Read returns.
func reads(t *testing.T, m []uint64, n int, want []api.Entry, e api.Errno) {
	t.Helper()
	if l, oe := entry.Read(m, n); !slices.Equal(l, want) || oe != e {
		t.Errorf("Read of %d entries of %d words: %v, %v, not %v, %v", n, len(m), l, oe, want, e)
	}
}

// refuses checks that Apply returns an error, and nothing else.
func refuses(t *testing.T, m []uint64, l []api.Entry, e api.Errno) {
	t.Helper()
	if o, oe := entry.Apply(m, l); len(o) != 0 || oe != e {
		t.Errorf("Apply of %v to %d words: %d words, %v, not %v", l, len(m), len(o), oe, e)
	}
}

// The examples of the chapter.
func TestExamples(t *testing.T) {
	w := mustWords(t, []api.Entry{{At: 130, Value: 5}, {At: 16, Value: 7}}, 256)
	if !slices.Equal(w, []uint64{130, 5, 16, 7}) {
		t.Errorf("the words are %v", w)
	}
	for at, want := range map[int]bool{23: true, 24: false, 95: false, 96: true} {
		if ok, e := entry.May(at, 256); ok != want || e != api.OK {
			t.Errorf("May of %d: %v, %v", at, ok, e)
		}
	}
}

// The numbers that the chapter names are those of api.
func TestNumbers(t *testing.T) {
	if api.PhaseStart != 16 || api.JournalStart != 24 || api.EntryStart != 32 || api.TypeStart != 96 || api.MaxEntries != 32 {
		t.Error("api has other places than the chapter")
	}
	if api.ErrArg != 2 || api.ErrMany != 4 || api.ErrBad != 8 || api.ErrCorrupt != 50 {
		t.Error("api has other errors than the chapter")
	}
}

// P8.1: May reports, for each address and each number of words, whether it may be changed.
func TestMay(t *testing.T) {
	for words := 256; words <= 2048; words += 8 {
		for at := -20; at < words+20; at++ {
			if ok, e := entry.May(at, words); ok != may(at, words) || e != api.OK {
				t.Errorf("May of %d with %d words: %v, %v", at, words, ok, e)
			}
		}
		for _, at := range closed(words) {
			if ok, e := entry.May(at, words); ok || e != api.OK {
				t.Errorf("May of %d with %d words: %v, %v", at, words, ok, e)
			}
		}
	}
}

// All functions with a number of words: ErrArg first, whatever the rest is.
func TestNotSizes(t *testing.T) {
	for _, words := range notSizes {
		for _, at := range []int{math.MinInt, -1, 0, 16, 23, 24, 95, 96, 130, 255, words - 1, words, math.MaxInt} {
			if ok, e := entry.May(at, words); ok || e != api.ErrArg {
				t.Errorf("May of %d with %d words: %v, %v", at, words, ok, e)
			}
			checks(t, entriesAt(at), words, api.ErrArg)
		}
		checks(t, nil, words, api.ErrArg)
		checks(t, entriesAt(130, 130), words, api.ErrArg)
		checks(t, make([]api.Entry, 33), words, api.ErrArg)
		checks(t, entriesAt(open(256)[:33]...), words, api.ErrArg)
	}
}

// P8.1: changes of all lengths, in any order, are right, and their words are addresses and values, in order.
func TestChanges(t *testing.T) {
	for _, words := range sizes {
		for _, l := range changes(words) {
			checks(t, l, words, api.OK)
			if w := mustWords(t, l, words); !slices.Equal(w, wordsOf(l)) {
				t.Errorf("the words of %v are %v", l, w)
			}
		}
	}
}

// P8.1: each address alone is a change just if it may be changed.
func TestEachAddress(t *testing.T) {
	for _, words := range sizes {
		for at := -20; at < words+20; at++ {
			want := api.ErrBad
			if may(at, words) {
				want = api.OK
			}
			checks(t, entriesAt(at), words, want)
		}
	}
}

// P8.1: two entries with the same address are no change, wherever they stand and whether their values differ.
func TestSameAddresses(t *testing.T) {
	for _, value := range []uint64{0, 5, math.MaxUint64} {
		for first := range 32 {
			for second := range first {
				l := entriesAt(open(256)[:32]...)
				l[first] = api.Entry{At: l[second].At, Value: value}
				checks(t, l, 256, api.ErrBad)
			}
		}
	}
}

// P8.1: lists that are no change are ErrBad.
func TestNotChanges(t *testing.T) {
	for _, words := range sizes {
		for _, l := range notChanges(words) {
			checks(t, l, words, api.ErrBad)
		}
	}
}

// P8.1 and R1: more than 32 entries are ErrMany, also if they are no change for another reason.
func TestTooMany(t *testing.T) {
	for _, words := range sizes {
		all := open(words)
		checks(t, entriesAt(all[:32]...), words, api.OK)
		for _, n := range []int{33, 34, 64, 100} {
			checks(t, entriesAt(all[:n]...), words, api.ErrMany)
			checks(t, make([]api.Entry, n), words, api.ErrMany)
			checks(t, entriesAt(slices.Repeat([]int{130}, n)...), words, api.ErrMany)
			checks(t, entriesAt(slices.Repeat([]int{-1}, n)...), words, api.ErrMany)
		}
		checks(t, entriesAt(all...), words, api.ErrMany)
	}
}

// P8.2 and P8.4: the words of a change, put into the journal of an image, are read as it.
func TestWrittenIsRead(t *testing.T) {
	for _, words := range sizes {
		for _, l := range changes(words) {
			reads(t, withJournal(words, mustWords(t, l, words)), len(l), l, api.OK)
		}
	}
}

// P8.2: of the entries that stand in the journal, as many are read as are asked for; the others do not matter.
func TestReadOfFewer(t *testing.T) {
	for _, words := range sizes {
		l := entriesAt(open(words)[40:72]...)
		m := withJournal(words, wordsOf(l))
		for n := 0; n <= 32; n++ {
			reads(t, m, n, l[:n], api.OK)
		}
		m[32+2*20] = 50
		for n := 0; n <= 32; n++ {
			if n <= 20 {
				reads(t, m, n, l[:n], api.OK)
			} else {
				reads(t, m, n, nil, api.ErrCorrupt)
			}
		}
	}
}

// P8.2: no word in front of the journal's entries, or behind those that are read, is part of the change.
func TestReadOfTheJournalAlone(t *testing.T) {
	l := entriesAt(open(256)[20:29]...)
	for at := range 256 {
		m := withJournal(256, wordsOf(l))
		if at < 32 || at >= 32+18 {
			m[at] = ^m[at]
			reads(t, m, 9, l, api.OK)
		}
	}
}

// P8.2: words that are no change are ErrCorrupt.
func TestReadOfNotChanges(t *testing.T) {
	for _, words := range sizes {
		for _, l := range notChanges(words) {
			reads(t, withJournal(words, wordsOf(l)), len(l), nil, api.ErrCorrupt)
		}
		for n := 1; n <= 32; n++ {
			reads(t, make([]uint64, words), n, nil, api.ErrCorrupt)
			reads(t, anImage(words), n, nil, api.ErrCorrupt)
			reads(t, slices.Repeat([]uint64{math.MaxUint64}, words), n, nil, api.ErrCorrupt)
		}
	}
}

// P8.2: a word that is beyond an address in any of its bits is no address.
func TestReadOfGreatAddresses(t *testing.T) {
	for _, words := range sizes {
		for bit := 11; bit < 64; bit++ {
			for _, at := range []uint64{0, 16, 96, 130, 255} {
				m := withJournal(words, []uint64{17, 1, 1<<bit | at, 2})
				reads(t, m, 1, []api.Entry{{At: 17, Value: 1}}, api.OK)
				reads(t, m, 2, nil, api.ErrCorrupt)
			}
		}
		for _, at := range []uint64{math.MaxUint64, 1<<63 - 1, 1 << 63, 1<<64 - 130, uint64(words)} {
			reads(t, withJournal(words, []uint64{at, 2}), 1, nil, api.ErrCorrupt)
		}
	}
}

// P8.2: what may be changed depends on the number of words of the image.
func TestReadOfOtherSizes(t *testing.T) {
	for _, words := range sizes {
		for _, other := range sizes {
			l := entriesAt(other - 1)
			if other <= words {
				reads(t, withJournal(words, wordsOf(l)), 1, l, api.OK)
			} else {
				reads(t, withJournal(words, wordsOf(l)), 1, nil, api.ErrCorrupt)
			}
		}
	}
}

// P8.2: ErrArg unless there is room for so many entries, whatever stands in the journal.
func TestReadOfWrongNumbers(t *testing.T) {
	for _, words := range sizes {
		for _, n := range []int{math.MinInt, math.MinInt + 1, -1 << 62, -33, -32, -2, -1, 33, 34, 64, 96, 1 << 31, 1 << 62, 1<<62 + 1, math.MaxInt - 1, math.MaxInt} {
			reads(t, withJournal(words, wordsOf(entriesAt(open(words)[:32]...))), n, nil, api.ErrArg)
			reads(t, make([]uint64, words), n, nil, api.ErrArg)
		}
	}
}

// P8.2 and R1: image.Check's error comes first.
func TestReadOfNotImages(t *testing.T) {
	for _, m := range notImages() {
		for _, n := range []int{math.MinInt, -1, 0, 1, 2, 3, 32, 33, math.MaxInt} {
			reads(t, m, n, nil, api.ErrBad)
		}
	}
}

// P8.3 and P8.4: applying changes the words at the addresses, and nothing else.
func TestApply(t *testing.T) {
	for _, words := range sizes {
		m := anImage(words)
		for _, l := range changes(words) {
			if o := mustApply(t, m, l); !slices.Equal(o, applied(m, l)) {
				t.Errorf("Apply of %v to %d words gives another image", l, words)
			}
		}
	}
}

// P8.3: each address that may be changed is, alone, and each other one is refused.
func TestApplyAtEachAddress(t *testing.T) {
	for _, words := range sizes {
		m := anImage(words)
		for at := -20; at < words+20; at++ {
			l := entriesAt(at)
			if !may(at, words) {
				refuses(t, m, l, api.ErrBad)
			} else if o := mustApply(t, m, l); !slices.Equal(o, applied(m, l)) {
				t.Errorf("Apply at %d of %d words gives another image", at, words)
			}
		}
	}
}

// P8.3: Check's error, for as many words as the image has.
func TestApplyOfNotChanges(t *testing.T) {
	for _, words := range sizes {
		m := anImage(words)
		for _, l := range notChanges(words) {
			refuses(t, m, l, api.ErrBad)
		}
		for _, n := range []int{33, 34, 64} {
			refuses(t, m, entriesAt(open(words)[:n]...), api.ErrMany)
			refuses(t, m, make([]api.Entry, n), api.ErrMany)
		}
		for _, other := range sizes {
			if other > words {
				refuses(t, m, entriesAt(other-1), api.ErrBad)
			}
		}
	}
}

// P8.3 and R1: image.Check's error comes first.
func TestApplyToNotImages(t *testing.T) {
	lists := [][]api.Entry{nil, entriesAt(16), entriesAt(130, 131), entriesAt(50), entriesAt(16, 16), make([]api.Entry, 33)}
	for _, m := range notImages() {
		for _, l := range lists {
			refuses(t, m, l, api.ErrBad)
		}
	}
}

// P8.4: with another word in the journal, another change is read, or none.
func TestOthersAreReadAsOthers(t *testing.T) {
	for _, words := range []int{256, 2048} {
		l := entriesAt(130, 16, 255, 96, 23)
		good := withJournal(words, wordsOf(l))
		others := 0
		for at := 32; at < 42; at++ {
			for bit := range 64 {
				m := slices.Clone(good)
				m[at] ^= 1 << bit
				o, e := entry.Read(m, 5)
				if slices.Equal(o, l) || e != api.OK && e != api.ErrCorrupt {
					t.Errorf("with the bit %d of the word at %d changed, %v, %v is read", bit, at, o, e)
				}
				if e == api.OK {
					others++
					if w := mustWords(t, o, words); !slices.Equal(w, m[32:42]) {
						t.Errorf("%v is read as %v", m[32:42], w)
					}
				}
			}
		}
		if others == 0 {
			t.Error("no other change was read")
		}
	}
}

// P8.4: different changes have different words, also if only the order differs.
func TestDifferentWords(t *testing.T) {
	found := map[[2]uint64]bool{}
	for at := range 256 {
		for value := range 256 {
			if !may(at, 256) {
				continue
			}
			w := mustWords(t, []api.Entry{{At: at, Value: uint64(value)}}, 256)
			k := [2]uint64(w)
			if found[k] {
				t.Errorf("%v are the words of two changes", w)
			}
			found[k] = true
		}
	}
	a := entriesAt(130, 16)
	b := []api.Entry{a[1], a[0]}
	if slices.Equal(mustWords(t, a, 256), mustWords(t, b, 256)) {
		t.Error("two orders have the same words")
	}
	reads(t, withJournal(256, wordsOf(a)), 2, a, api.OK)
	reads(t, withJournal(256, wordsOf(b)), 2, b, api.OK)
}

// P8.4: applied twice it is applied once.
func TestTwiceIsOnce(t *testing.T) {
	for _, words := range sizes {
		m := anImage(words)
		for _, l := range changes(words) {
			once := mustApply(t, m, l)
			if twice := mustApply(t, once, l); !slices.Equal(twice, once) {
				t.Errorf("%v applied twice gives another image", l)
			}
		}
	}
}

// P8.4: the order of entries does not matter for applying.
func TestAnyOrder(t *testing.T) {
	r := rand.New(rand.NewSource(3))
	for _, words := range sizes {
		m := anImage(words)
		for _, l := range changes(words) {
			want := mustApply(t, m, l)
			o := slices.Clone(l)
			slices.Reverse(o)
			for range 3 {
				if got := mustApply(t, m, o); !slices.Equal(got, want) {
					t.Errorf("%v gives another image than %v", o, l)
				}
				r.Shuffle(len(o), func(i, j int) { o[i], o[j] = o[j], o[i] })
			}
		}
	}
}

// P8.4: a change leaves superblock and journal as they are, so that it can be read and applied again.
func TestSuperblockAndJournalStay(t *testing.T) {
	for _, words := range sizes {
		for _, l := range changes(words) {
			m := withJournal(words, wordsOf(l))
			o := mustApply(t, m, l)
			if !slices.Equal(o[:16], m[:16]) || !slices.Equal(o[24:96], m[24:96]) {
				t.Errorf("%v changes superblock or journal", l)
			}
			reads(t, o, len(l), l, api.OK)
		}
	}
}

// R7: calls with any arguments end without a panic, and agree with the definition.
func TestAnyArguments(t *testing.T) {
	r := rand.New(rand.NewSource(4))
	good, bad, corrupt := 0, 0, 0
	for range 20000 {
		words := 256 + 8*r.Intn(225)
		l := make([]api.Entry, r.Intn(36))
		for i := range l {
			l[i] = api.Entry{At: 96 + r.Intn(words-96), Value: r.Uint64() >> r.Intn(64)}
			if r.Intn(60) == 0 {
				l[i].At = int(r.Uint64() >> r.Intn(64))
			}
		}
		m := anImage(words)
		want := api.ErrBad
		if len(l) > 32 {
			want = api.ErrMany
		}
		if isChange(l, words) {
			good++
			checks(t, l, words, api.OK)
			if o := mustApply(t, m, l); !slices.Equal(o, applied(m, l)) {
				t.Errorf("Apply of %v to %d words gives another image", l, words)
			}
			reads(t, withJournal(words, wordsOf(l)), len(l), l, api.OK)
			continue
		}
		bad++
		checks(t, l, words, want)
		refuses(t, m, l, want)
		if want == api.ErrBad {
			corrupt++
			reads(t, withJournal(words, wordsOf(l)), len(l), nil, api.ErrCorrupt)
		}
	}
	if good == 0 || corrupt == 0 || bad == corrupt {
		t.Errorf("%d lists were changes, %d were not, and %d were read", good, bad, corrupt)
	}
}

// R2: arguments are only read, what is behind them does not matter, and nothing is kept.
func TestArgumentsStay(t *testing.T) {
	lists := append(changes(256), entriesAt(50), entriesAt(16, 16), entriesAt(130, 256), make([]api.Entry, 33))
	for _, l := range lists {
		m := withJournal(256, wordsOf(entriesAt(130, 131)))
		copy(m[32:96], wordsOf(l))
		allWords, allEntries := append(slices.Clone(m), 91, 92, 93), append(slices.Clone(l), entriesAt(200, 200)...)
		keptWords, keptEntries := slices.Clone(allWords), slices.Clone(allEntries)
		given, entries := allWords[:len(m)], allEntries[:len(l)]
		if e1, e2 := entry.Check(entries, 256), entry.Check(l, 256); e1 != e2 {
			t.Errorf("Check of %v: %v and %v", l, e1, e2)
		}
		w1, _ := entry.Words(entries, 256)
		w2, _ := entry.Words(l, 256)
		o1, _ := entry.Apply(given, entries)
		o2, _ := entry.Apply(m, l)
		r1, _ := entry.Read(given, len(l))
		r2, _ := entry.Read(m, len(l))
		if !slices.Equal(w1, w2) || !slices.Equal(o1, o2) || !slices.Equal(r1, r2) {
			t.Errorf("with %v there is another result the second time", l)
		}
		if !slices.Equal(allWords, keptWords) || !slices.Equal(allEntries, keptEntries) {
			t.Errorf("with %v an argument, or what is behind it, is changed", l)
		}
	}
}

// R2: results are new each time, and share no memory with arguments, also of a change without entries.
func TestResultsAreNew(t *testing.T) {
	for _, l := range changes(256) {
		m := withJournal(256, wordsOf(l))
		keptImage, keptList := slices.Clone(m), slices.Clone(l)
		w, o := mustWords(t, l, 256), mustApply(t, m, l)
		x, e := entry.Read(m, len(l))
		if e != api.OK {
			t.Fatal(e)
		}
		for _, result := range [][]uint64{w[:cap(w)], o[:cap(o)]} {
			for i := range result {
				result[i] = ^result[i]
			}
		}
		x = x[:cap(x)]
		for i := range x {
			x[i] = api.Entry{At: -1}
		}
		if !slices.Equal(m, keptImage) || !slices.Equal(l, keptList) {
			t.Errorf("with %v a result shares memory with an argument", l)
		}
		if again := mustWords(t, l, 256); !slices.Equal(again, wordsOf(l)) {
			t.Errorf("after a result was changed, the words of %v are %v", l, again)
		}
		if again := mustApply(t, m, l); !slices.Equal(again, applied(m, l)) {
			t.Errorf("after a result was changed, %v gives another image", l)
		}
		reads(t, m, len(l), l, api.OK)
	}
}
