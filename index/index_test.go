package index_test

import (
	"math"
	"math/rand"
	"slices"
	"testing"

	"escheat/api"
	"escheat/index"
)

// depths are Depths that may be, and some that may not; of some of these the lowest byte would be one that may be.
func depths() []int {
	return []int{0, 1, 2, 3, 4, 5, 6, 7, 8, 31, 32, 63, 64, 255, 256, 257, 261, 1 << 32, 1<<32 + 3, 1<<48 + 5, -1, -2, -5, -255, -256, math.MinInt, math.MinInt + 1, math.MaxInt, math.MinInt32, math.MaxInt32}
}

// noNumbers are numbers that no place can have; of some of them the two bytes would be those of one that it can have.
func noNumbers() []int {
	return []int{-1, -2, -65535, -65536, 65536, 65537, 65543, 1 << 17, 1 << 32, 1<<32 + 7, 1<<48 + 5, math.MinInt, math.MinInt + 1, math.MaxInt, math.MinInt32, math.MaxInt32}
}

// edges are numbers of all sizes; of some of them a product or a sum with one of them wraps round.
func edges() []int {
	return append(noNumbers(), 0, 1, 2, 3, 4, 5, 6, 7, 8, 15, 16, 30, 31, 32, 33, 63, 64, 255, 256, 65535, 1<<59, 1<<62, 1<<63-2, -3, -31, -32, -33)
}

// of tells the index of that Depth whose first numbers are these.
func of(depth int, l ...int) index.Index {
	x := index.Index{Depth: depth}
	copy(x.To[:], l)
	return x
}

// near tells the nearest Depth that may be.
func near(depth int) int {
	switch {
	case depth < 0:
		return 0
	case depth > 5:
		return 5
	}
	return depth
}

// places tells how many places an index has.
func places(x index.Index) int {
	return []int{1, 2, 4, 8, 16, 32}[near(x.Depth)]
}

// class tells the places of a class, by the words: so many bits, and a number below 2 to their power.
func class(x index.Index, bits, p int) []int {
	step := []int{1, 2, 4, 8, 16, 32}[bits]
	var l []int
	for at := p; at < places(x); at += step {
		l = append(l, at)
	}
	return l
}

// have tells the places that have that block.
func have(x index.Index, no int) []int {
	var l []int
	for at := range places(x) {
		if x.To[at] == no {
			l = append(l, at)
		}
	}
	return l
}

// justClass tells whether the places that have that block are one of all classes that there are.
func justClass(x index.Index, no int) bool {
	for bits := range near(x.Depth) + 1 {
		for p := range 1 << bits {
			if slices.Equal(class(x, bits, p), have(x, no)) {
				return true
			}
		}
	}
	return false
}

// right tells what Right ought to, by the words of the chapter.
func right(x index.Index) bool {
	if x.Depth < 0 || x.Depth > 5 {
		return false
	}
	for at, no := range x.To {
		if no < 0 || no > 65535 || at >= places(x) && no != 0 {
			return false
		}
		if at < places(x) && no != 0 && !justClass(x, no) {
			return false
		}
	}
	return true
}

// bitsOf tells what Bits ought to: of all classes with the place the one of the fewest bits.
func bitsOf(x index.Index, place int) int {
	if place < 0 || place >= places(x) {
		return 0
	}
	if x.To[place] == 0 {
		return near(x.Depth)
	}
	for bits := range near(x.Depth) + 1 {
		for p := range 1 << bits {
			l := class(x, bits, p)
			if !slices.Contains(l, place) {
				continue
			}
			if !slices.ContainsFunc(l, func(at int) bool { return x.To[at] != x.To[place] }) {
				return bits
			}
		}
	}
	return -1
}

// placesOf tells what Places ought to.
func placesOf(x index.Index, place, bits int) []int {
	if place < 0 || place >= places(x) {
		return nil
	}
	switch {
	case bits < 0:
		bits = 0
	case bits > near(x.Depth):
		bits = near(x.Depth)
	}
	for p := range 1 << bits {
		if l := class(x, bits, p); slices.Contains(l, place) {
			return l
		}
	}
	return []int{-1}
}

// bucketsOf tells what Buckets ought to.
func bucketsOf(x index.Index) []int {
	var l []int
	for at := range places(x) {
		if no := x.To[at]; no != 0 && have(x, no)[0] == at {
			l = append(l, no)
		}
	}
	return l
}

// fixedOf tells what Fix ought to.
func fixedOf(x index.Index) index.Index {
	if x.Depth < 0 || x.Depth > 5 {
		return index.Index{}
	}
	fixed := index.Index{Depth: x.Depth}
	for at := range places(x) {
		no := x.To[at]
		if no > 0 && no < 65536 && (justClass(x, no) || have(x, no)[0] == at) {
			fixed.To[at] = no
		}
	}
	return fixed
}

// each calls do with every index of that Depth whose places have numbers of l, and with some beyond them.
func each(depth int, l []int, do func(x index.Index)) {
	n := places(of(depth))
	turns := make([]int, n)
	for {
		x := of(depth)
		for at := range n {
			x.To[at] = l[turns[at]]
		}
		do(x)
		at := 0
		for at < n && turns[at] == len(l)-1 {
			turns[at] = 0
			at++
		}
		if at == n {
			return
		}
		turns[at]++
	}
}

// parted tells a right index: its places are parted into classes by chance, some of them with no block.
func parted(r *rand.Rand, depth int) index.Index {
	x := of(depth)
	numbers := r.Perm(64)
	var part func(bits, p int)
	part = func(bits, p int) {
		if bits < depth && r.Intn(3) > 0 {
			part(bits+1, p)
			part(bits+1, p+1<<bits)
			return
		}
		no := 0
		if r.Intn(4) > 0 {
			no, numbers = 65535-numbers[0]*r.Intn(2)*1000, numbers[1:]
			if slices.Contains(x.To[:], no) {
				no = 1 + numbers[0]
			}
			for _, at := range class(x, bits, p) {
				x.To[at] = no
			}
		}
	}
	part(0, 0)
	return x
}

// spoilt tells x with some numbers that are others.
func spoilt(r *rand.Rand, x index.Index) index.Index {
	for range 1 + r.Intn(3) {
		switch r.Intn(5) {
		case 0:
			x.To[r.Intn(32)] = edges()[r.Intn(len(edges()))]
		case 1:
			x.To[r.Intn(32)] = x.To[r.Intn(32)]
		case 2:
			x.To[r.Intn(places(x))] = 0
		case 3:
			x.To[r.Intn(places(x))] = x.To[r.Intn(places(x))]
		case 4:
			x.Depth = depths()[r.Intn(len(depths()))]
		}
	}
	return x
}

// all calls do with indexes of all kinds.
func all(do func(x index.Index)) {
	each(0, append(edges(), 0, 7, 65535), do)
	each(1, append(edges(), 0, 7, 65535), do)
	each(2, []int{0, 7, 9, 65535, 65536, -1}, do)
	each(3, []int{0, 7, 9}, do)
	for _, depth := range depths() {
		x := of(depth)
		do(x)
		for at := range x.To {
			x.To[at] = 7
		}
		do(x)
		for at := range x.To {
			x.To[at] = at
		}
		do(x)
		for at := range x.To {
			x.To[at] = at%4 + 1
		}
		do(x)
	}
	r := rand.New(rand.NewSource(19))
	for range 4000 {
		x := parted(r, r.Intn(6))
		do(x)
		do(spoilt(r, x))
	}
}

// written tells the bytes of an index, whether it may be or not, as far as they have room.
func written(x index.Index) api.Block {
	b := api.Block{'i', 'd', 'x', '!', byte(x.Depth)}
	for at, no := range x.To {
		b[32+2*at], b[33+2*at] = byte(no), byte(no>>8)
	}
	return b
}

// Promise 19.1: by hand.
func TestRightByHand(t *testing.T) {
	cases := []struct {
		x    index.Index
		want bool
	}{
		{of(0), true},
		{of(5), true},
		{of(0, 7), true},
		{of(0, 65535), true},
		{of(0, 65536), false},
		{of(0, -1), false},
		{of(0, 7, 9), false},
		{of(0, 0, 7), false},
		{of(1, 7, 9), true},
		{of(1, 7, 7), true},
		{of(1, 7, 0), true},
		{of(1, 0, 7), true},
		{of(1, 7, 9, 7), false},
		{of(2, 7, 7, 7, 7), true},
		{of(2, 7, 9, 7, 9), true},
		{of(2, 7, 9, 7, 11), true},
		{of(2, 7, 0, 7, 0), true},
		{of(2, 7, 7, 9, 9), false},
		{of(2, 7, 9, 9, 7), false},
		{of(2, 7, 7, 7, 9), false},
		{of(2, 7, 7, 0, 0), false},
		{of(2, 7, 0, 7, 7), false},
		{of(3, 1, 2, 3, 4, 1, 2, 3, 4), true},
		{of(3, 1, 2, 1, 4, 1, 2, 1, 8), true},
		{of(3, 1, 2, 1, 4, 1, 2, 1, 1), false},
		{of(3, 1, 2, 1, 2, 1, 2, 0, 2), false},
		{of(6, 7), false},
		{of(-1, 7), false},
		{of(-1), false},
		{of(256), false},
		{of(math.MinInt), false},
		{of(math.MaxInt), false},
	}
	for _, c := range cases {
		if got := index.Right(c.x); got != c.want {
			t.Error(c.x, got)
		}
	}
}

// Promise 19.1: indexes of all kinds.
func TestRight(t *testing.T) {
	n := 0
	all(func(x index.Index) {
		if right(x) {
			n++
		}
		if got := index.Right(x); got != right(x) {
			t.Fatal(x, got)
		}
	})
	if n < 1000 {
		t.Error("few of them are right:", n)
	}
}

// Promise 19.1: the bytes, one by one.
func TestPutByHand(t *testing.T) {
	b, err := index.Put(of(2, 1, 258, 65535, 0))
	want := api.Block{0: 'i', 1: 'd', 2: 'x', 3: '!', 4: 2, 32: 1, 34: 2, 35: 1, 36: 255, 37: 255}
	if err != api.OK || b != want {
		t.Error(b, err)
	}
	// The last number ends at 95, and what stands beyond the places is written too.
	x := of(0)
	x.To[31] = 513
	b, err = index.Put(x)
	want = api.Block{0: 'i', 1: 'd', 2: 'x', 3: '!', 94: 1, 95: 2}
	if err != api.OK || b != want {
		t.Error(b, err)
	}
}

// Promise 19.1: what may not be, and what may.
func TestPut(t *testing.T) {
	for _, depth := range depths() {
		b, err := index.Put(of(depth, 7))
		if depth < 0 || depth > 5 {
			if err != api.ErrArg || b != (api.Block{}) {
				t.Error(depth, b, err)
			}
		} else if err != api.OK || b != written(of(depth, 7)) {
			t.Error(depth, b, err)
		}
	}
	for _, no := range noNumbers() {
		for at := range 32 {
			x := of(2, 7, 9, 7, 9)
			x.To[at] = no
			if b, err := index.Put(x); err != api.ErrArg || b != (api.Block{}) {
				t.Error(x, b, err)
			}
		}
	}
	// One that is not right has its bytes too.
	all(func(x index.Index) {
		may := x.Depth >= 0 && x.Depth <= 5
		for _, no := range x.To {
			may = may && no >= 0 && no <= 65535
		}
		b, err := index.Put(x)
		if may && (err != api.OK || b != written(x)) || !may && (err != api.ErrArg || b != (api.Block{})) {
			t.Fatal(x, b, err)
		}
	})
}

// Promise 19.1: read by hand.
func TestGetByHand(t *testing.T) {
	x, err := index.Get(api.Block{0: 'i', 1: 'd', 2: 'x', 3: '!', 4: 1, 32: 7, 34: 2, 35: 1})
	if err != api.OK || x != of(1, 7, 258) {
		t.Error(x, err)
	}
	// It need not be right.
	x, err = index.Get(api.Block{0: 'i', 1: 'd', 2: 'x', 3: '!', 4: 2, 32: 7, 34: 7, 36: 7})
	if err != api.OK || x != of(2, 7, 7, 7) {
		t.Error(x, err)
	}
	x, err = index.Get(api.Block{'i', 'd', 'x', '!'})
	if err != api.OK || x != of(0) {
		t.Error(x, err)
	}
	for _, b := range []api.Block{{}, {'i', 'd', 'x'}, {'I', 'D', 'X', '!'}, {'b', 'k', 't', '!'}, {1: 'i', 2: 'd', 3: 'x', 4: '!'}} {
		if x, err := index.Get(b); err != api.ErrForm || x != (index.Index{}) {
			t.Error(b, x, err)
		}
	}
}

// Promise 19.1: every Depth that a byte can tell, with a number at every place and beyond.
func TestGetDepths(t *testing.T) {
	for depth := range 256 {
		for at := range 32 {
			b := written(of(0))
			b[4], b[32+2*at] = byte(depth), 9
			want, fine := of(depth), depth <= 5 && at < 1<<depth
			want.To[at] = 9
			x, err := index.Get(b)
			if fine && (err != api.OK || x != want) || !fine && (err != api.ErrForm || x != (index.Index{})) {
				t.Error(depth, at, x, err)
			}
			// The upper byte of the number counts as well as the lower one.
			b[32+2*at], b[33+2*at], want.To[at] = 0, 9, 9*256
			x, err = index.Get(b)
			if fine && (err != api.OK || x != want) || !fine && (err != api.ErrForm || x != (index.Index{})) {
				t.Error(depth, at, x, err)
			}
		}
	}
}

// Promise 19.1: every byte but those of Depth and the places is told, when it is another one.
func TestGetBytes(t *testing.T) {
	for depth := range 6 {
		b, _ := index.Put(of(depth, 7))
		for at := range b {
			spoilt := b
			spoilt[at] ^= 0x40
			x, err := index.Get(spoilt)
			if at >= 32 && at < 32+2<<depth {
				if err != api.OK || x.To[(at-32)/2] == of(depth, 7).To[(at-32)/2] {
					t.Error(depth, at, x, err)
				}
			} else if err != api.ErrForm || x != (index.Index{}) {
				t.Error(depth, at, x, err)
			}
		}
	}
}

// Promises 19.1 and 19.5: what is put is got, unless there is something beyond its places.
func TestGetOfPut(t *testing.T) {
	all(func(x index.Index) {
		b, err := index.Put(x)
		if err != api.OK {
			return
		}
		fine := true
		for at := places(x); at < 32; at++ {
			fine = fine && x.To[at] == 0
		}
		got, err := index.Get(b)
		if fine && (err != api.OK || got != x) || !fine && (err != api.ErrForm || got != (index.Index{})) {
			t.Fatal(x, got, err)
		}
		if index.Right(x) && !index.Right(got) {
			t.Fatal(x, got)
		}
	})
}

// Promise 19.2: the low bits of hashes, as many as Depth.
func TestPlace(t *testing.T) {
	hashes := []uint32{0, 1, 2, 3, 5, 13, 31, 32, 33, 2166136261, 1 << 31, math.MaxUint32, math.MaxUint32 - 1, 0xAAAAAAAA, 0x55555555}
	for _, depth := range depths() {
		for _, h := range hashes {
			want := int(h) % places(of(depth))
			if got := index.Place(of(depth, 7, 7, 9), h); got != want {
				t.Error(depth, h, got, want)
			}
		}
	}
	if index.Place(of(3), 13) != 5 || index.Place(of(0), 13) != 0 || index.Place(of(5), 63) != 31 {
		t.Error("by hand")
	}
}

// Promise 19.2: by hand.
func TestBitsByHand(t *testing.T) {
	cases := []struct {
		x           index.Index
		place, want int
	}{
		{of(0), 0, 0},
		{of(0, 7), 0, 0},
		{of(1, 7, 7), 0, 0},
		{of(1, 7, 7), 1, 0},
		{of(1, 7, 9), 0, 1},
		{of(1, 7, 9), 1, 1},
		{of(1, 0, 0), 0, 1},
		{of(2, 7, 9, 7, 9), 0, 1},
		{of(2, 7, 9, 7, 11), 2, 1},
		{of(2, 7, 9, 7, 11), 3, 2},
		{of(2, 7, 0, 7, 0), 3, 2},
		// What is not right: two of three places, and all of them without a class.
		{of(2, 7, 7, 7, 9), 0, 1},
		{of(2, 7, 7, 7, 9), 1, 2},
		{of(2, 7, 7, 7, 9), 2, 1},
		{of(2, 7, 7, 9, 9), 0, 2},
		{of(2, 7, 7, 9, 9), 3, 2},
		// What stands beyond the places doesn't count.
		{of(1, 7, 7, 9, 9), 0, 0},
		{of(1, 7, 9, 7, 7), 0, 1},
		// There is no such place.
		{of(2, 7, 9, 7, 11), 4, 0},
		{of(2, 7, 9, 7, 11), -1, 0},
		{of(5, 7), 32, 0},
		{of(5, 7), math.MaxInt, 0},
		{of(5, 7), math.MinInt, 0},
		// A Depth that may not be counts as the nearest one.
		{of(6, 7), 0, 5},
		{of(6), 31, 5},
		{of(-1, 7), 0, 0},
		{of(-1, 7), 1, 0},
		{of(math.MaxInt), 0, 5},
		{of(math.MinInt), 0, 0},
		// A number that may not be is one, too.
		{of(1, -1, -1), 0, 0},
		{of(1, 65536, 0), 0, 1},
	}
	for _, c := range cases {
		if got := index.Bits(c.x, c.place); got != c.want {
			t.Error(c.x, c.place, got)
		}
	}
}

// Promise 19.2: Bits, Places and Buckets (19.3) of indexes of all kinds.
func TestBitsAndPlaces(t *testing.T) {
	all(func(x index.Index) {
		for place := -1; place <= 32; place++ {
			if got := index.Bits(x, place); got != bitsOf(x, place) {
				t.Fatal(x, place, got)
			}
		}
		if got := index.Buckets(x); !slices.Equal(got, bucketsOf(x)) {
			t.Fatal(x, got)
		}
	})
	for _, depth := range depths() {
		for _, place := range edges() {
			for _, bits := range edges() {
				if got := index.Places(of(depth, 7), place, bits); !slices.Equal(got, placesOf(of(depth), place, bits)) {
					t.Error(depth, place, bits, got)
				}
			}
		}
		for place := range 33 {
			for bits := -1; bits <= 7; bits++ {
				if got := index.Places(of(depth, 7), place, bits); !slices.Equal(got, placesOf(of(depth), place, bits)) {
					t.Error(depth, place, bits, got)
				}
			}
		}
	}
}

// Promise 19.2: by hand.
func TestPlacesByHand(t *testing.T) {
	cases := []struct {
		depth, place, bits int
		want               []int
	}{
		{0, 0, 0, []int{0}},
		{0, 0, 5, []int{0}},
		{3, 5, 0, []int{0, 1, 2, 3, 4, 5, 6, 7}},
		{3, 5, -4, []int{0, 1, 2, 3, 4, 5, 6, 7}},
		{3, 5, 1, []int{1, 3, 5, 7}},
		{3, 5, 2, []int{1, 5}},
		{3, 5, 3, []int{5}},
		{3, 5, 4, []int{5}},
		{3, 5, math.MaxInt, []int{5}},
		{3, 8, 0, nil},
		{3, -1, 0, nil},
		{5, 31, 3, []int{7, 15, 23, 31}},
		{9, 31, 3, []int{7, 15, 23, 31}},
		{-9, 0, 3, []int{0}},
		{-9, 1, 3, nil},
	}
	for _, c := range cases {
		if got := index.Places(of(c.depth), c.place, c.bits); !slices.Equal(got, c.want) {
			t.Error(c, got)
		}
	}
}

// Promise 19.3: each place of the class has the number, whatever it is, and all else is as it was.
func TestSet(t *testing.T) {
	r := rand.New(rand.NewSource(193))
	for _, depth := range depths() {
		for _, place := range append(edges(), 9, 10, 17, 21, 29) {
			for _, bits := range []int{math.MinInt, -1, 0, 1, 2, 3, 4, 5, 6, 32, 63, 64, math.MaxInt} {
				x := of(depth)
				for at := range x.To {
					x.To[at] = 100 + at
				}
				no := edges()[r.Intn(len(edges()))]
				want := x
				for _, at := range placesOf(x, place, bits) {
					want.To[at] = no
				}
				if got := index.Set(x, place, bits, no); got != want {
					t.Error(depth, place, bits, no, got)
				}
			}
		}
	}
	if got := index.Set(of(2, 1, 2, 3, 4), 3, 1, 9); got != of(2, 1, 9, 3, 9) {
		t.Error(got)
	}
	if got := index.Set(of(2, 1, 2, 3, 4), 3, 2, 0); got != of(2, 1, 2, 3, 0) {
		t.Error(got)
	}
	if got := index.Set(of(2, 1, 2, 3, 4), 4, 0, 9); got != of(2, 1, 2, 3, 4) {
		t.Error(got)
	}
}

// Promise 19.3: by hand, and what can't be doubled.
func TestDoubleByHand(t *testing.T) {
	cases := []struct {
		x, want index.Index
	}{
		{of(0), of(1)},
		{of(0, 7), of(1, 7, 7)},
		{of(1, 7, 9), of(2, 7, 9, 7, 9)},
		{of(2, 1, 2, 0, 4), of(3, 1, 2, 0, 4, 1, 2, 0, 4)},
		// What stands beyond the places is overwritten where there are places now, and else stays.
		{of(0, 7, 8, 9), of(1, 7, 7, 9)},
		{of(1, 7, 9, 1, 2, 3), of(2, 7, 9, 7, 9, 3)},
		{of(1, -7, 1<<40, 0, 0, -3), of(2, -7, 1<<40, -7, 1<<40, -3)},
	}
	for _, c := range cases {
		if got, err := index.Double(c.x); err != api.OK || got != c.want {
			t.Error(c.x, got, err)
		}
	}
	for _, depth := range depths() {
		x := of(depth)
		for at := range x.To {
			x.To[at] = 100 + at
		}
		got, err := index.Double(x)
		if depth < 0 || depth >= 5 {
			if err != api.ErrBig || got != x {
				t.Error(depth, got, err)
			}
		} else if err != api.OK || got.Depth != depth+1 {
			t.Error(depth, got, err)
		}
	}
}

// Promises 19.3 and 19.5: doubled, each hash has the same block, and what is right stays right.
func TestDouble(t *testing.T) {
	r := rand.New(rand.NewSource(195))
	all(func(x index.Index) {
		got, err := index.Double(x)
		if err != api.OK {
			if x.Depth >= 0 && x.Depth < 5 || err != api.ErrBig || got != x {
				t.Fatal(x, got, err)
			}
			return
		}
		for h := range uint32(64) {
			h |= r.Uint32() << 6
			if got.To[index.Place(got, h)] != x.To[index.Place(x, h)] {
				t.Fatal(x, got, h)
			}
		}
		if !slices.Equal(got.To[places(got):], x.To[places(got):]) {
			t.Fatal(x, got)
		}
		if !slices.Equal(index.Buckets(got), index.Buckets(x)) {
			t.Fatal(x, got)
		}
		if index.Right(x) && !index.Right(got) {
			t.Fatal(x, got)
		}
	})
}

// Promise 19.3: by hand.
func TestBucketsByHand(t *testing.T) {
	cases := []struct {
		x    index.Index
		want []int
	}{
		{of(0), nil},
		{of(5), nil},
		{of(0, 7), []int{7}},
		{of(0, 0, 7), nil},
		{of(1, 9, 7, 8), []int{9, 7}},
		{of(2, 9, 7, 9, 7), []int{9, 7}},
		{of(2, 0, 9, 0, 7), []int{9, 7}},
		{of(2, 9, 7, 7, 9), []int{9, 7}},
		{of(1, -1, 65536), []int{-1, 65536}},
		{of(-1, 3, 4), []int{3}},
	}
	for _, c := range cases {
		if got := index.Buckets(c.x); !slices.Equal(got, c.want) {
			t.Error(c.x, got)
		}
	}
	x := of(77)
	for at := range x.To {
		x.To[at] = 32 - at
	}
	if got := index.Buckets(x); !slices.Equal(got, x.To[:]) {
		t.Error(got)
	}
}

// Promise 19.4: by hand.
func TestFixByHand(t *testing.T) {
	cases := []struct {
		x, want index.Index
	}{
		{of(0), of(0)},
		{of(5), of(5)},
		{of(0, 7), of(0, 7)},
		{of(0, 7, 9), of(0, 7)},
		{of(0, 0, 9), of(0)},
		{of(0, 65535), of(0, 65535)},
		{of(0, 65536), of(0)},
		{of(0, -1), of(0)},
		{of(1, 7, 7), of(1, 7, 7)},
		{of(1, 7, 7, 7), of(1, 7, 7)},
		{of(1, -1, -1), of(1)},
		{of(1, 65536, 7), of(1, 0, 7)},
		{of(2, 7, 9, 7, 9), of(2, 7, 9, 7, 9)},
		{of(2, 7, 7, 9, 9), of(2, 7, 0, 9, 0)},
		{of(2, 7, 9, 9, 7), of(2, 7, 9)},
		{of(2, 7, 7, 7, 9), of(2, 7, 0, 0, 9)},
		{of(2, 0, 7, 7, 7), of(2, 0, 7)},
		{of(2, 0, 0, 7, 7), of(2, 0, 0, 7)},
		{of(2, 7, 7, 9, 7), of(2, 7, 0, 9)},
		{of(3, 1, 2, 1, 2, 1, 2, 1, 1), of(3, 1, 2)},
		{of(6, 7), of(0)},
		{of(-1, 7), of(0)},
		{of(256, 7), of(0)},
		{of(math.MinInt, 7), of(0)},
		{of(math.MaxInt, 7), of(0)},
	}
	for _, c := range cases {
		if got := index.Fix(c.x); got != c.want {
			t.Error(c.x, got)
		}
	}
}

// Promises 19.4 and 19.6: a fixed one is right, a right one is as it was, and no place has what it had not.
func TestFix(t *testing.T) {
	all(func(x index.Index) {
		got := index.Fix(x)
		if got != fixedOf(x) || !index.Right(got) || index.Fix(got) != got {
			t.Fatal(x, got)
		}
		if right(x) != (got == x) {
			t.Fatal(x, got)
		}
		for at, no := range got.To {
			if no != 0 && no != x.To[at] {
				t.Fatal(x, got)
			}
		}
	})
}

// Promises 19.1 to 19.3: parted and joined again, as a directory that grows does, it is right all the while.
func TestParted(t *testing.T) {
	x := of(0, 100)
	for depth := 1; depth <= 5; depth++ {
		before := x
		x, _ = index.Double(x)
		place := 1<<depth - 1
		x = index.Set(x, place, depth, 100+depth)
		if !index.Right(x) || index.Bits(x, place) != depth || index.Bits(x, place>>1) != depth {
			t.Error(x)
		}
		for h := range uint32(32) {
			if want := before.To[index.Place(before, h)]; int(h)%(1<<depth) != place && x.To[index.Place(x, h)] != want {
				t.Error(x, h)
			}
		}
	}
	if !slices.Equal(index.Buckets(x), []int{100, 101, 102, 103, 104, 105}) {
		t.Error(x)
	}
	for depth := 5; depth >= 1; depth-- {
		x = index.Set(x, 1<<depth-1, depth-1, 99+depth)
		if !index.Right(x) {
			t.Error(x)
		}
	}
	if !slices.Equal(index.Buckets(x), []int{100}) || index.Bits(x, 17) != 0 {
		t.Error(x)
	}
}

// The chapter's examples.
func TestExamples(t *testing.T) {
	x := of(1, 7, 7)
	if index.Bits(x, 0) != 0 {
		t.Error(index.Bits(x, 0))
	}
	x = index.Set(x, 1, 1, 9)
	if x != of(1, 7, 9) {
		t.Error(x)
	}
	if x, err := index.Double(x); err != api.OK || x != of(2, 7, 9, 7, 9) {
		t.Error(x, err)
	}
}

// Rule R4: each answer is new memory.
func TestNewMemory(t *testing.T) {
	x := of(2, 7, 9, 7, 11)
	l, same := index.Places(x, 0, 1), index.Places(x, 0, 1)
	for at := range l {
		l[at] = -5
	}
	if !slices.Equal(same, []int{0, 2}) || !slices.Equal(index.Places(x, 0, 1), []int{0, 2}) {
		t.Error(same)
	}
	l, same = index.Buckets(x), index.Buckets(x)
	for at := range l {
		l[at] = -5
	}
	if !slices.Equal(same, []int{7, 9, 11}) || !slices.Equal(index.Buckets(x), []int{7, 9, 11}) || x != of(2, 7, 9, 7, 11) {
		t.Error(same, x)
	}
}

// P1: every call ends and none panics, at any arguments.
func TestAnyArguments(t *testing.T) {
	r := rand.New(rand.NewSource(1))
	some := func() int {
		if r.Intn(3) == 0 {
			return int(r.Uint64())
		}
		return edges()[r.Intn(len(edges()))]
	}
	for range 20000 {
		x := spoilt(r, parted(r, r.Intn(6)))
		for range r.Intn(20) {
			x.To[r.Intn(32)] = some()
		}
		if r.Intn(2) == 0 {
			x.Depth = some()
		}
		b := written(x)
		for range r.Intn(4) {
			b[r.Intn(256)] = byte(r.Intn(256))
		}
		if got, err := index.Get(b); err == api.OK {
			if again, err := index.Put(got); err != api.OK || again != b {
				t.Fatal(b, got, err)
			}
		} else if err != api.ErrForm || got != (index.Index{}) {
			t.Fatal(b, got, err)
		}
		index.Put(x)
		index.Place(x, r.Uint32())
		index.Bits(x, some())
		index.Places(x, some(), some())
		index.Set(x, some(), some(), some())
		index.Double(x)
		index.Buckets(x)
		if index.Right(x) != right(x) || index.Fix(x) != fixedOf(x) {
			t.Fatal(x)
		}
	}
}
