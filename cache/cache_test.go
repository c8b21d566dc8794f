package cache_test

import (
	"math"
	"math/rand"
	"slices"
	"testing"

	"ballast/api"
	"ballast/cache"
	"ballast/image"
)

// numbered has so many words, all different, and none of them 0.
func numbered(words int) []uint64 {
	m := make([]uint64, words)
	for i := range m {
		m[i] = uint64(i)<<32 + uint64(i) + 1
	}
	return m
}

// validSizes has the numbers of words of valid images, straight from the definition.
func validSizes() []int {
	var l []int
	for words := 256; words <= 2048; words += 8 {
		l = append(l, words)
	}
	return l
}

// notImages has lists of words that are no valid image.
func notImages() [][]uint64 {
	l := [][]uint64{nil, {}}
	for _, words := range []int{1, 8, 248, 255, 257, 263, 300, 2047, 2049, 2056, 4096} {
		l = append(l, numbered(words))
	}
	// there is room for a valid image, but it has fewer words
	return append(l, make([]uint64, 0, 256), make([]uint64, 255, 256))
}

// notAddresses has numbers that are no address of a word, just outside and far away.
func notAddresses(words int) []int {
	return []int{
		-1, -2, -8, -256, math.MinInt32, math.MinInt, math.MinInt + 1, math.MinInt + 256,
		words, words + 1, words + 7, words + 8, 4096, math.MaxInt32, math.MaxInt - 7, math.MaxInt,
	}
}

// device has a numbered image and some dirty words, and does not go down.
func device(words int, l ...api.Dirty) api.Device {
	return api.Device{Image: numbered(words), Dirty: l, Left: -1}
}

// allDirty has each of its words dirty, every third one flushed.
func allDirty(words int) api.Device {
	d := device(words)
	for at := range words {
		d.Dirty = append(d.Dirty, api.Dirty{At: at, Value: uint64(3 * at), Flushed: at%3 == 0})
	}
	return d
}

// random has some dirty words, some of which are flushed, or stored as they were.
func random(r *rand.Rand) api.Device {
	sizes := []int{256, 264, 1024, 2048}
	d := device(sizes[r.Intn(len(sizes))])
	sparse := 1 + r.Intn(100)
	for at := range d.Image {
		if r.Intn(sparse) == 0 {
			w := api.Dirty{At: at, Value: r.Uint64(), Flushed: r.Intn(2) == 0}
			if r.Intn(5) == 0 {
				w.Value = d.Image[at]
			}
			d.Dirty = append(d.Dirty, w)
		}
	}
	return d
}

// valid has valid devices of all sorts.
func valid() []api.Device {
	l := []api.Device{
		device(256), device(2048), allDirty(256), allDirty(2048),
		device(256, api.Dirty{}), device(256, api.Dirty{At: 255, Value: 7}),
		device(256, api.Dirty{At: 0, Value: 1, Flushed: true}, api.Dirty{At: 255, Value: math.MaxUint64}),
		device(256, api.Dirty{At: 254}, api.Dirty{At: 255}),
		// stored as they were
		device(264, api.Dirty{At: 9, Value: numbered(264)[9]}, api.Dirty{At: 263, Value: numbered(264)[263], Flushed: true}),
	}
	r := rand.New(rand.NewSource(1))
	for range 20 {
		l = append(l, random(r))
	}
	for i, left := range []int{0, 1, 2, 60, 999999, 1000000} {
		d := l[i+3]
		d.Left = left
		l = append(l, d)
	}
	for _, d := range l[:10] {
		d.Left, d.Down = 0, true
		l = append(l, d)
	}
	return l
}

// notValid has devices that are not valid, each for one reason alone, or for all of them.
func notValid() []api.Device {
	var l []api.Device
	for _, m := range notImages() {
		l = append(l, api.Device{Image: m, Left: -1})
	}
	for _, words := range []int{256, 264, 2048} {
		for _, at := range notAddresses(words) {
			w := api.Dirty{At: at}
			l = append(l, device(words, w), device(words, api.Dirty{At: 5}, w), device(words, w, api.Dirty{At: 5}), device(words, api.Dirty{At: words - 1}, w))
		}
		l = append(l,
			device(words, api.Dirty{At: 0}, api.Dirty{At: 0}),
			device(words, api.Dirty{At: 9, Value: 1}, api.Dirty{At: 9, Value: 1}),
			device(words, api.Dirty{At: 9}, api.Dirty{At: 8}),
			device(words, api.Dirty{At: words - 1}, api.Dirty{At: words - 1}),
			device(words, api.Dirty{At: words - 1}, api.Dirty{At: 0}),
			device(words, api.Dirty{At: 1}, api.Dirty{At: 3}, api.Dirty{At: 2}),
			device(words, api.Dirty{At: 1}, api.Dirty{At: 3}, api.Dirty{At: 1}),
			device(words, api.Dirty{At: 1}, api.Dirty{At: 3}, api.Dirty{At: 3}, api.Dirty{At: 4}),
		)
		d := allDirty(words)
		d.Dirty = append(d.Dirty, api.Dirty{At: words - 1})
		l = append(l, d)
	}
	for _, left := range []int{-2, -3, 1000001, math.MinInt32, math.MinInt, math.MaxInt32, math.MaxInt} {
		for _, down := range []bool{false, true} {
			d := device(256, api.Dirty{At: 3})
			d.Left, d.Down = left, down
			l = append(l, d)
		}
	}
	for _, left := range []int{-1, 1, 2, 1000000} {
		d := device(256, api.Dirty{At: 3})
		d.Left, d.Down = left, true
		l = append(l, d)
	}
	return append(l, api.Device{}, api.Device{Down: true}, api.Device{Image: numbered(7), Dirty: []api.Dirty{{At: 9}, {At: 8}}, Left: -5, Down: true})
}

func same(a, b api.Device) bool {
	return slices.Equal(a.Image, b.Image) && slices.Equal(a.Dirty, b.Dirty) && a.Left == b.Left && a.Down == b.Down
}

func isZero(d api.Device) bool {
	return len(d.Image) == 0 && len(d.Dirty) == 0 && d.Left == 0 && !d.Down
}

func clone(d api.Device) api.Device {
	d.Image, d.Dirty = slices.Clone(d.Image), slices.Clone(d.Dirty)
	return d
}

// armed has another Left, and is not down.
func armed(d api.Device, left int) api.Device {
	d.Left, d.Down = left, false
	return d
}

func mustLoad(t *testing.T, d api.Device, at int) uint64 {
	t.Helper()
	v, e := cache.Load(d, at)
	if e != api.OK {
		t.Fatalf("Load at %d: %v", at, e)
	}
	return v
}

func mustView(t *testing.T, d api.Device) []uint64 {
	t.Helper()
	m, e := cache.View(d)
	if e != api.OK {
		t.Fatalf("View: %v", e)
	}
	return m
}

// must checks that each device that is returned is valid.
func must(t *testing.T, d api.Device, e api.Errno) api.Device {
	t.Helper()
	if e != api.OK {
		t.Fatalf("an operation: %v", e)
	}
	if e := cache.Check(d); e != api.OK {
		t.Fatalf("the device behind an operation: %v", e)
	}
	return d
}

func mustStore(t *testing.T, d api.Device, at int, v uint64) api.Device {
	t.Helper()
	o, e := cache.Store(d, at, v)
	return must(t, o, e)
}

func mustFlush(t *testing.T, d api.Device, at int) api.Device {
	t.Helper()
	o, e := cache.Flush(d, at)
	return must(t, o, e)
}

func mustFence(t *testing.T, d api.Device) api.Device {
	t.Helper()
	o, e := cache.Fence(d)
	return must(t, o, e)
}

// operation is an operation on a device, and what the definitions say of it.
type operation struct {
	name string
	do   func(api.Device) (api.Device, api.Errno)
	make func(map[int]api.Dirty, []uint64)
}

func storing(at int, v uint64) operation {
	return operation{
		"a store",
		func(d api.Device) (api.Device, api.Errno) { return cache.Store(d, at, v) },
		func(dirty map[int]api.Dirty, m []uint64) { dirty[at] = api.Dirty{At: at, Value: v} },
	}
}

func flushing(at int) operation {
	return operation{
		"a flush",
		func(d api.Device) (api.Device, api.Errno) { return cache.Flush(d, at) },
		func(dirty map[int]api.Dirty, m []uint64) {
			for a, w := range dirty {
				if a/8 == at/8 {
					w.Flushed = true
					dirty[a] = w
				}
			}
		},
	}
}

func fencing() operation {
	return operation{
		"a fence",
		cache.Fence,
		func(dirty map[int]api.Dirty, m []uint64) {
			for at := range m {
				if dirty[at].Flushed {
					m[at] = dirty[at].Value
					delete(dirty, at)
				}
			}
		},
	}
}

// behind returns a device after an operation, straight from the definitions.
func behind(d api.Device, o operation) api.Device {
	d = clone(d)
	if d.Down {
		return d
	}
	if d.Left == 0 {
		d.Down = true
		return d
	}
	if d.Left != -1 {
		d.Left--
	}
	dirty := map[int]api.Dirty{}
	for _, w := range d.Dirty {
		dirty[w.At] = w
	}
	o.make(dirty, d.Image)
	d.Dirty = nil
	for at := range d.Image {
		if w, ok := dirty[at]; ok {
			d.Dirty = append(d.Dirty, w)
		}
	}
	return d
}

// agree checks an operation against the definitions, and returns the device behind it.
func agree(t *testing.T, d api.Device, o operation) api.Device {
	t.Helper()
	got, e := o.do(d)
	if want := behind(d, o); e != api.OK || !same(got, want) {
		t.Fatalf("%s: %v, dirty %v, left %d, down %v, not dirty %v, left %d, down %v", o.name, e, got.Dirty, got.Left, got.Down, want.Dirty, want.Left, want.Down)
	}
	return must(t, got, e)
}

// someOperation is a random one, mostly in few lines.
func someOperation(r *rand.Rand, words int) operation {
	at := r.Intn(words)
	if r.Intn(3) > 0 {
		at %= 24
	}
	switch r.Intn(6) {
	case 0, 1, 2:
		return storing(at, uint64(r.Intn(4)))
	case 3, 4:
		return flushing(at)
	}
	return fencing()
}

// The example of the document.
func TestExample(t *testing.T) {
	d, e := cache.New(make([]uint64, 256))
	if e != api.OK {
		t.Fatal(e)
	}
	d = mustStore(t, d, 9, 5)
	if v := mustLoad(t, d, 9); v != 5 || d.Image[9] != 0 {
		t.Errorf("5 stored is loaded as %d, with %d in the image", v, d.Image[9])
	}
	d = mustFence(t, mustFlush(t, d, 15))
	if d.Image[9] != 5 || len(d.Dirty) != 0 {
		t.Errorf("after flushing and a fence the image has %d, and %v is dirty", d.Image[9], d.Dirty)
	}
}

// P3.1: Check returns ErrBad unless a device is valid.
func TestCheck(t *testing.T) {
	for i, d := range valid() {
		if e := cache.Check(d); e != api.OK {
			t.Errorf("Check of the valid device %d: %v", i, e)
		}
	}
	for i, d := range notValid() {
		if e := cache.Check(d); e != api.ErrBad {
			t.Errorf("Check of the device %d, which is not valid: %v", i, e)
		}
	}
}

// P3.1: a device with the image of every size, and with each Left near the ends.
func TestCheckOfEverySizeAndLeft(t *testing.T) {
	sizes := validSizes()
	for words := range 2100 {
		want := api.ErrBad
		if slices.Contains(sizes, words) {
			want = api.OK
		}
		if e := cache.Check(api.Device{Image: make([]uint64, words)}); e != want {
			t.Errorf("Check of a device of %d words: %v, not %v", words, e, want)
		}
	}
	for _, from := range []int{-20, 999990} {
		for left := from; left <= from+40; left++ {
			for _, down := range []bool{false, true} {
				want := api.ErrBad
				if left >= -1 && left <= 1000000 && (left == 0 || !down) {
					want = api.OK
				}
				d := device(256)
				d.Left, d.Down = left, down
				if e := cache.Check(d); e != want {
					t.Errorf("Check with Left %d, down %v: %v, not %v", left, down, e, want)
				}
			}
		}
	}
}

// P3.1: two dirty words are valid just if the first address is the lower one, and both are of words.
func TestCheckOfTwoDirtyWords(t *testing.T) {
	for a := -2; a < 260; a++ {
		for b := -2; b < 260; b++ {
			want := api.ErrBad
			if 0 <= a && a < b && b < 256 {
				want = api.OK
			}
			if e := cache.Check(device(256, api.Dirty{At: a}, api.Dirty{At: b})); e != want {
				t.Fatalf("Check with dirty words at %d and %d: %v, not %v", a, b, e, want)
			}
		}
	}
}

// P3.1: New has the image, and nothing else, or image.Check's error and nothing.
func TestNew(t *testing.T) {
	for _, words := range validSizes() {
		d, e := cache.New(numbered(words))
		if e != api.OK || !same(d, device(words)) || cache.Check(d) != api.OK {
			t.Fatalf("New of %d words: %d words, dirty %v, left %d, down %v, %v", words, len(d.Image), d.Dirty, d.Left, d.Down, e)
		}
	}
	for _, m := range notImages() {
		if d, e := cache.New(m); !isZero(d) || e != api.ErrBad || e != image.Check(m) {
			t.Errorf("New of %d words: left %d, %v", len(m), d.Left, e)
		}
	}
}

// P3.2: Load and View have the value of the dirty word with an address, otherwise that of the image.
func TestLoadAndView(t *testing.T) {
	for i, d := range valid() {
		want := slices.Clone(d.Image)
		for _, w := range d.Dirty {
			want[w.At] = w.Value
		}
		if m := mustView(t, d); !slices.Equal(m, want) {
			t.Errorf("the device %d is viewed as others", i)
		}
		for at := range want {
			if v := mustLoad(t, d, at); v != want[at] {
				t.Errorf("the device %d has at %d the word %#x, not %#x", i, at, v, want[at])
			}
		}
	}
}

// P3.2, P3.3: there is ErrArg and nothing for an address without a word, also if the device is down or goes down.
func TestNotAddresses(t *testing.T) {
	for i, d := range valid() {
		for _, at := range notAddresses(len(d.Image)) {
			if v, e := cache.Load(d, at); v != 0 || e != api.ErrArg {
				t.Errorf("Load of the device %d at %d: %#x, %v", i, at, v, e)
			}
			if o, e := cache.Store(d, at, 5); !isZero(o) || e != api.ErrArg {
				t.Errorf("Store to the device %d at %d: left %d, %v", i, at, o.Left, e)
			}
			if o, e := cache.Flush(d, at); !isZero(o) || e != api.ErrArg {
				t.Errorf("Flush of the device %d at %d: left %d, %v", i, at, o.Left, e)
			}
		}
	}
}

// P3.3: Store, on devices of all sorts, at each address, whether the word there is dirty, flushed, or neither.
func TestStore(t *testing.T) {
	for _, d := range valid() {
		for at := 0; at < len(d.Image); at += 1 + len(d.Image)/200 {
			agree(t, d, storing(at, 77))
			agree(t, d, storing(at, d.Image[at]))
		}
		agree(t, d, storing(len(d.Image)-1, math.MaxUint64))
	}
	d := mustStore(t, device(256, api.Dirty{At: 9, Value: 5, Flushed: true}), 9, 5)
	if !slices.Equal(d.Dirty, []api.Dirty{{At: 9, Value: 5}}) {
		t.Errorf("a flushed word, stored again as it was, is %v", d.Dirty)
	}
	d = mustStore(t, device(256), 9, numbered(256)[9])
	if !slices.Equal(d.Dirty, []api.Dirty{{At: 9, Value: numbered(256)[9]}}) {
		t.Errorf("a word stored as the image has it is %v", d.Dirty)
	}
}

// P3.3: Flush, on devices of all sorts, of the line of each address, and of no other line.
func TestFlush(t *testing.T) {
	for _, d := range valid() {
		for at := 0; at < len(d.Image); at += 1 + len(d.Image)/200 {
			agree(t, d, flushing(at))
		}
		agree(t, d, flushing(len(d.Image)-1))
	}
	d := device(256, api.Dirty{At: 15}, api.Dirty{At: 16}, api.Dirty{At: 20, Flushed: true}, api.Dirty{At: 23}, api.Dirty{At: 24})
	want := []api.Dirty{{At: 15}, {At: 16, Flushed: true}, {At: 20, Flushed: true}, {At: 23, Flushed: true}, {At: 24}}
	for at := 16; at < 24; at++ {
		if o := mustFlush(t, d, at); !slices.Equal(o.Dirty, want) {
			t.Errorf("after flushing the line of %d there is dirty %v", at, o.Dirty)
		}
	}
}

// P3.3: Fence, on devices of all sorts, with none, some and all of the dirty words flushed.
func TestFence(t *testing.T) {
	for _, d := range valid() {
		agree(t, d, fencing())
		for _, flushed := range []bool{false, true} {
			d := clone(d)
			for i := range d.Dirty {
				d.Dirty[i].Flushed = flushed
			}
			agree(t, d, fencing())
		}
	}
	d := mustFence(t, device(256, api.Dirty{At: 3, Value: 7, Flushed: true}, api.Dirty{At: 4, Value: 8}))
	if d.Image[3] != 7 || d.Image[4] != numbered(256)[4] || !slices.Equal(d.Dirty, []api.Dirty{{At: 4, Value: 8}}) {
		t.Errorf("after a fence the image has %d and %d, and %v is dirty", d.Image[3], d.Image[4], d.Dirty)
	}
}

// P3.3: sequences of operations agree with the definitions, at each step.
func TestSequences(t *testing.T) {
	r := rand.New(rand.NewSource(2))
	for range 150 {
		d := random(r)
		if r.Intn(2) == 0 {
			d.Left = r.Intn(60)
		}
		for range 60 {
			d = agree(t, d, someOperation(r, len(d.Image)))
		}
	}
}

// P3.3, P3.4: just so many operations as Left says are made; the next one makes the device go down, and nothing else.
func TestLeft(t *testing.T) {
	for left := range 20 {
		free, d := device(256), armed(device(256), left)
		made := []operation{storing(9, 5), storing(10, 6), flushing(9), fencing(), storing(255, 7)}
		for i := range left {
			o := made[i%len(made)]
			free, d = agree(t, free, o), agree(t, d, o)
			if d.Left != left-i-1 || d.Down || !same(armed(d, -1), free) {
				t.Fatalf("after %d of %d operations: left %d, down %v", i+1, left, d.Left, d.Down)
			}
		}
		for _, o := range []operation{storing(40, 1), storing(9, 4), flushing(255), fencing()} {
			down := agree(t, d, o)
			if down.Left != 0 || !down.Down || !same(armed(down, -1), free) {
				t.Fatalf("%s behind %d operations: left %d, down %v", o.name, left, down.Left, down.Down)
			}
		}
	}
	d := agree(t, armed(device(256), 1000000), storing(0, 1))
	if d.Left != 999999 {
		t.Errorf("one operation less than 1000000 is %d", d.Left)
	}
	for range 50 {
		d = agree(t, armed(d, -1), storing(0, 1))
		if d.Left != -1 || d.Down {
			t.Fatalf("a device without a limit has left %d, down %v", d.Left, d.Down)
		}
	}
}

// P3.4: a device that is down stays so, and as it is, and can still be loaded.
func TestDownStays(t *testing.T) {
	r := rand.New(rand.NewSource(3))
	for range 50 {
		first := armed(random(r), 0)
		first.Down = true
		d, view := first, mustView(t, first)
		for range 20 {
			d = agree(t, d, someOperation(r, len(d.Image)))
			if !same(d, first) || !slices.Equal(mustView(t, d), view) {
				t.Fatalf("a device that is down becomes dirty %v, left %d, down %v", d.Dirty, d.Left, d.Down)
			}
		}
	}
}

// P3.4: after storing a word is loaded at its address, and all others as before; the image stays.
func TestStoredIsLoaded(t *testing.T) {
	r := rand.New(rand.NewSource(4))
	for range 300 {
		d := random(r)
		at, v := r.Intn(len(d.Image)), r.Uint64()
		want := mustView(t, d)
		want[at] = v
		o := mustStore(t, d, at, v)
		if !slices.Equal(mustView(t, o), want) || mustLoad(t, o, at) != v || !slices.Equal(o.Image, d.Image) {
			t.Fatalf("%#x stored at %d: loaded as %#x, or others are changed", v, at, mustLoad(t, o, at))
		}
		if again := mustStore(t, mustStore(t, d, at, ^v), at, v); !same(again, o) {
			t.Fatalf("stored twice at %d it is not what was stored last", at)
		}
	}
}

// P3.4: flushing and fencing change nothing that is loaded; the image changes by a fence alone, where words were flushed.
func TestFlushAndFenceChangeNothing(t *testing.T) {
	r := rand.New(rand.NewSource(5))
	for range 300 {
		d := random(r)
		view := mustView(t, d)
		flushed := mustFlush(t, d, r.Intn(len(d.Image)))
		if !slices.Equal(mustView(t, flushed), view) || !slices.Equal(flushed.Image, d.Image) {
			t.Fatal("a flush changes what is loaded, or the image")
		}
		fenced := mustFence(t, flushed)
		if !slices.Equal(mustView(t, fenced), view) {
			t.Fatal("a fence changes what is loaded")
		}
		for at := range d.Image {
			i := slices.IndexFunc(flushed.Dirty, func(w api.Dirty) bool { return w.At == at && w.Flushed })
			want := d.Image[at]
			if i >= 0 {
				want = flushed.Dirty[i].Value
			}
			if fenced.Image[at] != want {
				t.Fatalf("a fence makes the word of the image at %d %#x, not %#x", at, fenced.Image[at], want)
			}
		}
	}
}

// P3.4: after flushing all dirty lines, in any order, a fence leaves nothing dirty, and the image is what is loaded.
func TestAllFlushed(t *testing.T) {
	r := rand.New(rand.NewSource(6))
	for range 100 {
		d := random(r)
		view, o := mustView(t, d), d
		for _, i := range r.Perm(len(d.Dirty)) {
			o = mustFlush(t, o, d.Dirty[i].At)
		}
		o = mustFence(t, o)
		if len(o.Dirty) != 0 || !slices.Equal(o.Image, view) {
			t.Fatalf("after flushing all dirty lines and a fence there is dirty %v", o.Dirty)
		}
	}
}

// P3.4: storing at two addresses does not depend on the order.
func TestOrderOfStores(t *testing.T) {
	r := rand.New(rand.NewSource(7))
	for range 300 {
		d := random(r)
		a, b := r.Intn(len(d.Image)), r.Intn(len(d.Image))
		if a == b {
			continue
		}
		one := mustStore(t, mustStore(t, d, a, 1), b, 2)
		other := mustStore(t, mustStore(t, d, b, 2), a, 1)
		if !same(one, other) {
			t.Fatalf("stores at %d and %d depend on the order: %v, %v", a, b, one.Dirty, other.Dirty)
		}
	}
}

// R1: Check's error comes before that of an address, and nothing else is returned.
func TestBadDevicesFirst(t *testing.T) {
	for i, d := range notValid() {
		if m, e := cache.View(d); len(m) != 0 || e != api.ErrBad {
			t.Errorf("View of the device %d: %d words, %v", i, len(m), e)
		}
		if o, e := cache.Fence(d); !isZero(o) || e != api.ErrBad {
			t.Errorf("Fence of the device %d: left %d, %v", i, o.Left, e)
		}
		for _, at := range append(notAddresses(len(d.Image)), 0, 8, 9, 255) {
			if v, e := cache.Load(d, at); v != 0 || e != api.ErrBad {
				t.Errorf("Load of the device %d at %d: %#x, %v", i, at, v, e)
			}
			if o, e := cache.Store(d, at, 5); !isZero(o) || e != api.ErrBad {
				t.Errorf("Store to the device %d at %d: left %d, %v", i, at, o.Left, e)
			}
			if o, e := cache.Flush(d, at); !isZero(o) || e != api.ErrBad {
				t.Errorf("Flush of the device %d at %d: left %d, %v", i, at, o.Left, e)
			}
		}
	}
}

// withSpare returns a device with more memory behind its lists, and all of this memory.
func withSpare(d api.Device) (o, all api.Device) {
	all, o = clone(d), d
	all.Image = append(all.Image, 91, 92, 93, 94, 95)
	all.Dirty = append(all.Dirty, api.Dirty{At: 96}, api.Dirty{At: 97}, api.Dirty{At: 98})
	o.Image, o.Dirty = all.Image[:len(d.Image)], all.Dirty[:len(d.Dirty)]
	return o, all
}

// spoil changes all memory of a device, also that behind its lists.
func spoil(d api.Device) {
	m, l := d.Image[:cap(d.Image)], d.Dirty[:cap(d.Dirty)]
	for i := range m {
		m[i] = ^m[i]
	}
	for i := range l {
		l[i] = api.Dirty{At: -1, Value: ^l[i].Value, Flushed: !l[i].Flushed}
	}
}

// R2: calls change no argument, nor the memory behind one, and their results share no memory with them or with each other.
func TestArgumentsStay(t *testing.T) {
	for i, given := range valid() {
		d, all := withSpare(given)
		before := clone(all)
		for at := 0; at < len(d.Image); at += 51 {
			for _, o := range []operation{storing(at, 5), flushing(at), fencing(), {"a new device", func(d api.Device) (api.Device, api.Errno) { return cache.New(d.Image) }, nil}} {
				first, e := o.do(d)
				kept := clone(must(t, first, e))
				spoil(first)
				if !same(all, before) {
					t.Fatalf("%s changes the device %d, or shares memory with it", o.name, i)
				}
				if second, e := o.do(d); e != api.OK || !same(second, kept) {
					t.Fatalf("%s gives another device the second time", o.name)
				}
			}
			cache.Load(d, at)
		}
		spoil(api.Device{Image: mustView(t, d)})
		cache.Check(d)
		if !same(all, before) {
			t.Fatalf("the device %d is changed", i)
		}
	}
}
