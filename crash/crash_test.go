package crash_test

import (
	"math"
	"math/rand"
	"slices"
	"testing"

	"ballast/api"
	"ballast/cache"
	"ballast/crash"
)

// numbered has so many words, all different, and none of them 0.
func numbered(words int) []uint64 {
	m := make([]uint64, words)
	for i := range m {
		m[i] = uint64(i)<<32 + uint64(i) + 1
	}
	return m
}

// device has a numbered image and some dirty words, and does not go down.
func device(words int, l ...api.Dirty) api.Device {
	return api.Device{Image: numbered(words), Dirty: l, Left: -1}
}

// everyDirty has just so many dirty words, with gaps between them, some flushed, and none as the image has it.
func everyDirty(n int) api.Device {
	d := device(2048)
	for i := range n {
		at := i
		if n <= 600 {
			at = 3*i + i%2
		}
		d.Dirty = append(d.Dirty, api.Dirty{At: at, Value: uint64(7*i + 5), Flushed: i%3 == 0})
	}
	return d
}

// random has some dirty words, some of which are flushed, or stored as they were.
func random(r *rand.Rand) api.Device {
	sizes := []int{256, 264, 1024, 2048}
	d := device(sizes[r.Intn(len(sizes))])
	sparse := 1 + r.Intn(100)
	for at := range d.Image {
		if r.Intn(sparse) == 0 {
			w := api.Dirty{At: at, Value: r.Uint64(), Flushed: r.Intn(2) == 0}
			if r.Intn(5) == 0 {
				w.Value = d.Image[at]
			}
			d.Dirty = append(d.Dirty, w)
		}
	}
	return d
}

// valid has valid devices of all sorts.
func valid() []api.Device {
	l := []api.Device{
		device(256), device(2048),
		device(256, api.Dirty{}), device(256, api.Dirty{At: 255, Value: 7}),
		device(256, api.Dirty{At: 0, Value: 1, Flushed: true}, api.Dirty{At: 255, Value: math.MaxUint64}),
		// stored as they were
		device(264, api.Dirty{At: 9, Value: numbered(264)[9]}, api.Dirty{At: 263, Value: numbered(264)[263], Flushed: true}),
	}
	for _, n := range []int{1, 2, 63, 64, 65, 127, 128, 129, 300, 2047, 2048} {
		l = append(l, everyDirty(n))
	}
	r := rand.New(rand.NewSource(1))
	for range 15 {
		l = append(l, random(r))
	}
	for i, left := range []int{0, 1, 2, 60, 999999, 1000000} {
		d := l[i+4]
		d.Left = left
		l = append(l, d)
	}
	for _, d := range l[:12] {
		d.Left, d.Down = 0, true
		l = append(l, d)
	}
	return l
}

// notValid has devices that are not valid, each for one reason alone, or for all of them.
func notValid() []api.Device {
	l := []api.Device{
		{}, {Left: -1}, {Down: true}, device(0), device(255), device(257), device(2049), device(2056), device(248),
		{Image: make([]uint64, 0, 256), Left: -1},
		device(256, api.Dirty{At: -1}), device(256, api.Dirty{At: -1}, api.Dirty{At: 5}), device(256, api.Dirty{At: math.MinInt}),
		device(256, api.Dirty{At: 256}), device(256, api.Dirty{At: 5}, api.Dirty{At: math.MaxInt}),
		device(256, api.Dirty{At: 9}, api.Dirty{At: 9}), device(256, api.Dirty{At: 9}, api.Dirty{At: 8}),
		{Image: numbered(7), Dirty: []api.Dirty{{At: 9}, {At: 8}}, Left: -5, Down: true},
	}
	for _, left := range append(notLefts(), -1, 1, 1000000) {
		d := device(256, api.Dirty{At: 3})
		d.Left, d.Down = left, true
		l = append(l, d)
	}
	for _, left := range notLefts() {
		d := device(256, api.Dirty{At: 3})
		d.Left = left
		l = append(l, d)
	}
	return l
}

func lefts() []int {
	return []int{-1, 0, 1, 2, 59, 60, 61, 65536, 999999, 1000000}
}

// notLefts has numbers with which no device is armed, just outside and far away.
func notLefts() []int {
	return []int{-2, -3, 1000001, 1000002, math.MinInt32, math.MaxInt32, math.MinInt, math.MinInt + 1, math.MaxInt}
}

// masks has masks of all sorts, among them each one with one bit.
func masks() []uint64 {
	l := []uint64{0, 1, 2, 3, 0x205, 0xf0, math.MaxUint64, math.MaxUint64 - 1, math.MaxInt64, math.MaxUint32, 0xaaaaaaaaaaaaaaaa, 0x5555555555555555}
	for bit := range 64 {
		l = append(l, 1<<bit)
	}
	r := rand.New(rand.NewSource(2))
	for range 10 {
		l = append(l, r.Uint64())
	}
	return l
}

func same(a, b api.Device) bool {
	return slices.Equal(a.Image, b.Image) && slices.Equal(a.Dirty, b.Dirty) && a.Left == b.Left && a.Down == b.Down
}

func isZero(d api.Device) bool {
	return len(d.Image) == 0 && len(d.Dirty) == 0 && d.Left == 0 && !d.Down
}

func clone(d api.Device) api.Device {
	d.Image, d.Dirty = slices.Clone(d.Image), slices.Clone(d.Dirty)
	return d
}

// bitsOf has the bits of a mask that are 1.
func bitsOf(mask uint64) map[int]bool {
	bits := map[int]bool{}
	for bit := 0; mask > 0; bit++ {
		if mask%2 == 1 {
			bits[bit] = true
		}
		mask /= 2
	}
	return bits
}

// keptBy has the indices of the words that a mask keeps, straight from the definition.
func keptBy(d api.Device, mask uint64) []int {
	bits := bitsOf(mask)
	var l []int
	for i := range d.Dirty {
		if bits[i%64] {
			l = append(l, i)
		}
	}
	return l
}

// must checks that each device that is returned is valid.
func must(t *testing.T, d api.Device, e api.Errno) api.Device {
	t.Helper()
	if e != api.OK {
		t.Fatal(e)
	}
	if e := cache.Check(d); e != api.OK {
		t.Fatalf("the device that is returned: %v", e)
	}
	return d
}

func mustArm(t *testing.T, d api.Device, left int) api.Device {
	t.Helper()
	o, e := crash.Arm(d, left)
	return must(t, o, e)
}

func mustCrash(t *testing.T, d api.Device, mask uint64) api.Device {
	t.Helper()
	o, e := crash.Crash(d, mask)
	return must(t, o, e)
}

func mustStore(t *testing.T, d api.Device, at int, v uint64) api.Device {
	t.Helper()
	o, e := cache.Store(d, at, v)
	return must(t, o, e)
}

func mustFlush(t *testing.T, d api.Device, at int) api.Device {
	t.Helper()
	o, e := cache.Flush(d, at)
	return must(t, o, e)
}

func mustFence(t *testing.T, d api.Device) api.Device {
	t.Helper()
	o, e := cache.Fence(d)
	return must(t, o, e)
}

func mustView(t *testing.T, d api.Device) []uint64 {
	t.Helper()
	m, e := cache.View(d)
	if e != api.OK {
		t.Fatal(e)
	}
	return m
}

func mustChosen(t *testing.T, d api.Device, mask uint64) []int {
	t.Helper()
	l, e := crash.Chosen(d, mask)
	if e != api.OK {
		t.Fatal(e)
	}
	return l
}

// The example of the document: with the mask 2 only the second of two dirty words is in the image.
func TestExample(t *testing.T) {
	d := mustStore(t, api.Device{Image: make([]uint64, 256), Left: -1}, 9, 5)
	d = mustStore(t, d, 12, 6)
	if l := mustChosen(t, d, 2); !slices.Equal(l, []int{1}) {
		t.Errorf("the mask 2 keeps the indices %v of two", l)
	}
	want := make([]uint64, 256)
	want[12] = 6
	if o := mustCrash(t, d, 2); !same(o, api.Device{Image: want, Left: -1}) {
		t.Errorf("after a crash there is %d at 9, %d at 12, dirty %v, left %d, down %v", o.Image[9], o.Image[12], o.Dirty, o.Left, o.Down)
	}
}

// P4.1: Arm changes Left, and a device that is down is not down then; all else stays.
func TestArm(t *testing.T) {
	for i, d := range valid() {
		for _, left := range lefts() {
			want := d
			want.Left, want.Down = left, false
			if o := mustArm(t, d, left); !same(o, want) {
				t.Errorf("the device %d, armed with %d: dirty %v, left %d, down %v", i, left, o.Dirty, o.Left, o.Down)
			}
		}
	}
}

// P4.1: ErrArg and nothing else unless a number is from -1 to 1,000,000.
func TestArmWithOtherNumbers(t *testing.T) {
	for i, d := range valid() {
		for _, left := range notLefts() {
			if o, e := crash.Arm(d, left); !isZero(o) || e != api.ErrArg {
				t.Errorf("the device %d, armed with %d: left %d, %v", i, left, o.Left, e)
			}
		}
	}
}

// P4.1: an armed device makes just so many operations, then it goes down, and can be armed again.
func TestArmedGoesDown(t *testing.T) {
	d := mustArm(t, device(256), 2)
	d = mustStore(t, mustStore(t, d, 9, 5), 10, 6)
	if d.Down || d.Left != 0 || len(d.Dirty) != 2 {
		t.Fatalf("after two operations: dirty %v, left %d, down %v", d.Dirty, d.Left, d.Down)
	}
	d = mustStore(t, d, 11, 7)
	if !d.Down || d.Left != 0 || len(d.Dirty) != 2 {
		t.Fatalf("after a third one: dirty %v, left %d, down %v", d.Dirty, d.Left, d.Down)
	}
	d = mustStore(t, mustArm(t, d, 1), 11, 7)
	if d.Down || d.Left != 0 || len(d.Dirty) != 3 {
		t.Errorf("armed again, with an operation: dirty %v, left %d, down %v", d.Dirty, d.Left, d.Down)
	}
	d = mustArm(t, d, -1)
	for range 20 {
		d = mustStore(t, d, 9, 5)
	}
	if d.Down || d.Left != -1 {
		t.Errorf("armed with -1: left %d, down %v", d.Left, d.Down)
	}
}

// P4.2: Chosen has the indices of the words that are kept, in increasing order; the index 64 goes with the bit 0 again.
func TestChosen(t *testing.T) {
	for i, d := range valid() {
		for _, mask := range masks() {
			if l, want := mustChosen(t, d, mask), keptBy(d, mask); !slices.Equal(l, want) {
				t.Errorf("of the device %d the mask %#x keeps %v, not %v", i, mask, l, want)
			}
		}
	}
	for _, c := range []struct {
		n    int
		mask uint64
		want []int
	}{
		{0, math.MaxUint64, nil},
		{10, 0x205, []int{0, 2, 9}},
		{64, 1, []int{0}},
		{65, 1, []int{0, 64}},
		{130, 1<<63 | 2, []int{1, 63, 65, 127, 129}},
		{200, 1 << 63, []int{63, 127, 191}},
		{300, 0x10, []int{4, 68, 132, 196, 260}},
		{63, 1 << 63, nil},
	} {
		if l := mustChosen(t, everyDirty(c.n), c.mask); !slices.Equal(l, c.want) {
			t.Errorf("of %d words the mask %#x keeps %v, not %v", c.n, c.mask, l, c.want)
		}
	}
}

// P4.2: a word is kept by its index, whatever its address is, and whether it was flushed or not.
func TestChosenByIndex(t *testing.T) {
	for _, flushed := range []bool{false, true} {
		d := device(256, api.Dirty{At: 64, Flushed: flushed}, api.Dirty{At: 65, Value: 3, Flushed: !flushed}, api.Dirty{At: 255, Flushed: flushed})
		for mask := range uint64(8) {
			if l, want := mustChosen(t, d, mask), keptBy(d, mask); !slices.Equal(l, want) {
				t.Errorf("the mask %d keeps %v, not %v", mask, l, want)
			}
		}
	}
}

// P4.2: no word is special: at each address each sort of word is kept, also one that is 0.
func TestChosenOfEachSort(t *testing.T) {
	for _, w := range []api.Dirty{{}, {Flushed: true}, {Value: math.MaxUint64}, {Value: math.MaxUint64, Flushed: true}} {
		d := device(2048)
		for at := range d.Image {
			w.At = at
			d.Dirty = append(d.Dirty, w)
		}
		if l := mustChosen(t, d, math.MaxUint64); !slices.Equal(l, keptBy(d, math.MaxUint64)) {
			t.Errorf("of words of the sort %v a mask of ones keeps %d", w, len(l))
		}
		if o := mustCrash(t, d, math.MaxUint64); !slices.Equal(o.Image, slices.Repeat([]uint64{w.Value}, 2048)) {
			t.Errorf("words of the sort %v are not all kept in a crash", w)
		}
	}
}

// P4.2: Crash puts the words that are kept into the image, and leaves nothing dirty, Left -1, and a device that is not down.
func TestCrash(t *testing.T) {
	for i, d := range valid() {
		for _, mask := range masks() {
			want := slices.Clone(d.Image)
			for _, k := range keptBy(d, mask) {
				want[d.Dirty[k].At] = d.Dirty[k].Value
			}
			o := mustCrash(t, d, mask)
			if !slices.Equal(o.Image, want) {
				t.Errorf("after a crash with %#x the device %d has another image", mask, i)
			}
			if len(o.Dirty) != 0 || o.Left != -1 || o.Down {
				t.Errorf("after a crash with %#x the device %d has dirty %v, left %d, down %v", mask, i, o.Dirty, o.Left, o.Down)
			}
		}
	}
}

// P4.3: each word after a crash is that of the image before, or what was loaded.
func TestOldOrNew(t *testing.T) {
	for i, d := range valid() {
		view := mustView(t, d)
		for _, mask := range masks() {
			for at, v := range mustCrash(t, d, mask).Image {
				if v != d.Image[at] && v != view[at] {
					t.Fatalf("after a crash with %#x the device %d has %#x at %d: neither %#x nor %#x", mask, i, v, at, d.Image[at], view[at])
				}
			}
		}
	}
}

// P4.3: with a mask of ones the image is what was loaded, with 0 it is the image.
func TestOnesAndZeros(t *testing.T) {
	for i, d := range valid() {
		if o := mustCrash(t, d, math.MaxUint64); !slices.Equal(o.Image, mustView(t, d)) {
			t.Errorf("after a crash with a mask of ones the device %d is not what was loaded", i)
		}
		if o := mustCrash(t, d, 0); !slices.Equal(o.Image, d.Image) {
			t.Errorf("after a crash with a mask of zeros the device %d has another image", i)
		}
	}
}

// P4.3: words that were fenced, and not stored since, are as they were loaded, whatever the mask is.
func TestFencedStay(t *testing.T) {
	r := rand.New(rand.NewSource(3))
	for range 60 {
		d := random(r)
		d = mustFlush(t, d, r.Intn(len(d.Image)))
		d = mustFence(t, d)
		view, stored := mustView(t, d), map[int]bool{}
		for _, w := range d.Dirty {
			stored[w.At] = true
		}
		for range r.Intn(40) {
			at := r.Intn(len(d.Image))
			d, stored[at] = mustStore(t, d, at, r.Uint64()), true
		}
		o := mustCrash(t, d, r.Uint64())
		for at, v := range o.Image {
			if !stored[at] && v != view[at] {
				t.Fatalf("a word that was safe at %d is %#x after a crash, not %#x", at, v, view[at])
			}
		}
	}
}

// P4.3: a crash after a crash changes nothing.
func TestCrashTwice(t *testing.T) {
	for i, d := range valid() {
		o := mustCrash(t, d, 0x123456789abcdef)
		for _, mask := range masks() {
			if again := mustCrash(t, o, mask); !same(again, o) {
				t.Errorf("a crash with %#x after a crash changes the device %d", mask, i)
			}
			if l := mustChosen(t, o, mask); len(l) != 0 {
				t.Errorf("after a crash the mask %#x keeps %v", mask, l)
			}
		}
	}
}

// P4.3: what two masks together keep is what either of them keeps.
func TestMasksTogether(t *testing.T) {
	r := rand.New(rand.NewSource(4))
	for i, d := range valid() {
		for range 20 {
			a, b := r.Uint64()&r.Uint64(), r.Uint64()&r.Uint64()
			want := append(mustChosen(t, d, a), mustChosen(t, d, b)...)
			slices.Sort(want)
			if l := mustChosen(t, d, a|b); !slices.Equal(l, slices.Compact(want)) {
				t.Errorf("of the device %d the masks %#x and %#x keep %v together", i, a, b, l)
			}
			one, other, both := mustCrash(t, d, a), mustCrash(t, d, b), mustCrash(t, d, a|b)
			for at, v := range both.Image {
				either := one.Image[at]
				if either == d.Image[at] {
					either = other.Image[at]
				}
				if v != either {
					t.Fatalf("after a crash with %#x and %#x together the device %d has %#x at %d, not %#x", a, b, i, v, at, either)
				}
			}
		}
	}
}

// R1: cache.Check's error comes first, before that of a number, and nothing else is returned.
func TestBadDevicesFirst(t *testing.T) {
	for i, d := range notValid() {
		if e := cache.Check(d); e != api.ErrBad {
			t.Fatalf("the device %d is valid: %v", i, e)
		}
		for _, left := range append(lefts(), notLefts()...) {
			if o, e := crash.Arm(d, left); !isZero(o) || e != api.ErrBad {
				t.Errorf("the device %d, armed with %d: left %d, %v", i, left, o.Left, e)
			}
		}
		for _, mask := range masks() {
			if o, e := crash.Crash(d, mask); !isZero(o) || e != api.ErrBad {
				t.Errorf("a crash of the device %d with %#x: left %d, %v", i, mask, o.Left, e)
			}
			if l, e := crash.Chosen(d, mask); len(l) != 0 || e != api.ErrBad {
				t.Errorf("the mask %#x keeps of the device %d: %v, %v", mask, i, l, e)
			}
		}
	}
}

// withSpare returns a device with more memory behind its lists, and all of this memory.
func withSpare(d api.Device) (o, all api.Device) {
	all, o = clone(d), d
	all.Image = append(all.Image, 91, 92, 93, 94, 95)
	all.Dirty = append(all.Dirty, api.Dirty{At: 96}, api.Dirty{At: 97}, api.Dirty{At: 98})
	o.Image, o.Dirty = all.Image[:len(d.Image)], all.Dirty[:len(d.Dirty)]
	return o, all
}

// spoil changes all memory of a device, also that behind its lists.
func spoil(d api.Device) {
	m, l := d.Image[:cap(d.Image)], d.Dirty[:cap(d.Dirty)]
	for i := range m {
		m[i] = ^m[i]
	}
	for i := range l {
		l[i] = api.Dirty{At: -1, Value: ^l[i].Value, Flushed: !l[i].Flushed}
	}
}

// R2: calls change no argument, nor the memory behind one; their results share no memory with them, and nothing is kept.
func TestArgumentsStay(t *testing.T) {
	for i, given := range valid() {
		d, all := withSpare(given)
		before := clone(all)
		for _, do := range []func() (api.Device, api.Errno){
			func() (api.Device, api.Errno) { return crash.Arm(d, 3) },
			func() (api.Device, api.Errno) { return crash.Arm(d, d.Left) },
			func() (api.Device, api.Errno) { return crash.Crash(d, math.MaxUint64) },
			func() (api.Device, api.Errno) { return crash.Crash(d, 0) },
		} {
			first, e := do()
			kept := clone(must(t, first, e))
			spoil(first)
			if !same(all, before) {
				t.Fatalf("a call changes the device %d, or shares memory with it", i)
			}
			if second, e := do(); e != api.OK || !same(second, kept) {
				t.Fatalf("a call gives another device the second time, from the device %d", i)
			}
		}
		l := mustChosen(t, d, math.MaxUint64)
		kept := slices.Clone(l)
		clear(l[:cap(l)])
		if !same(all, before) || !slices.Equal(mustChosen(t, d, math.MaxUint64), kept) {
			t.Fatalf("what is chosen of the device %d is kept, or changes it", i)
		}
	}
}
