package super_test

import (
	"encoding/binary"
	"hash/fnv"
	"math"
	"math/rand"
	"testing"

	"escheat/api"
	"escheat/super"
)

// least tells for each count of inodes that may be how many blocks a device must have at least: one more than the first two and those of the inodes, but 16 whatever they are.
func least() map[int]int {
	return map[int]int{8: 16, 16: 16, 24: 16, 32: 16, 40: 16, 48: 16, 56: 16, 64: 16, 72: 16, 80: 16, 88: 16, 96: 16, 104: 16, 112: 17, 120: 18, 128: 19}
}

// mayBe says of a layout what the chapter's words say, by that table.
func mayBe(l api.Layout) bool {
	blocks, is := least()[l.Inodes]
	return is && l.Blocks >= blocks && l.Blocks <= 512
}

// merges are floating numbers of all kinds, as bits, and numbers each of whose bytes tells its place.
func merges() []uint64 {
	l := []uint64{0, 1, 255, 256, 1 << 31, 1<<32 - 1, 1 << 32, 1 << 63, 1<<63 - 1, math.MaxUint64, 0x0807060504030201, 0xf8f7f6f5f4f3f2f1}
	for _, x := range []float64{1, -1, 0.5, 2.0 / 7, 1e300, -1e-300, math.Copysign(0, -1), math.Inf(1), math.Inf(-1), math.NaN(), math.SmallestNonzeroFloat64} {
		l = append(l, math.Float64bits(x))
	}
	return append(l, 9221120237041090560, 9221120237041090560|1<<63, 9218868437227405313)
}

// counts are numbers at, and past, the edges of what may be, of two bytes, and of what an int can have.
func counts() []int {
	return []int{math.MinInt, math.MinInt + 8, math.MinInt + 16, math.MinInt32, -65536 + 16, -512, -128, -16, -8, -1, 0, 1, 2, 3, 4, 7, 8, 9, 12, 15, 16, 17, 18, 19, 20, 64, 104, 112, 120, 127, 128, 129, 136, 144, 256, 500, 511, 512, 513, 520, 1024,
		65535, 65536, 65536 + 8, 65536 + 16, 65536 + 512, math.MaxInt32, 1 << 32, 1<<32 + 16, 1<<32 + 128, 1 << 62, math.MaxInt - 7, math.MaxInt - 1, math.MaxInt}
}

// layouts may all be, each pair of counts with one Merge, which is another one from pair to pair.
func layouts() []api.Layout {
	var l []api.Layout
	m := merges()
	for inodes, blocks := range least() {
		for n := blocks; n <= 512; n++ {
			l = append(l, api.Layout{Blocks: n, Inodes: inodes, Merge: m[(n+inodes/8)%len(m)]})
		}
	}
	return l
}

// some layouts that may be, at the edges, with each Merge.
func some() []api.Layout {
	var l []api.Layout
	for _, merge := range merges() {
		for _, k := range [][2]int{{16, 8}, {16, 104}, {17, 112}, {18, 120}, {19, 128}, {512, 8}, {512, 128}, {255, 64}, {256, 64}, {257, 72}} {
			l = append(l, api.Layout{Blocks: k[0], Inodes: k[1], Merge: merge})
		}
	}
	return l
}

// others are layouts that may not be.
func others() []api.Layout {
	var l []api.Layout
	for _, blocks := range counts() {
		for _, inodes := range counts() {
			for _, merge := range []uint64{0, 1 << 63, math.MaxUint64} {
				if one := (api.Layout{Blocks: blocks, Inodes: inodes, Merge: merge}); !mayBe(one) {
					l = append(l, one)
				}
			}
		}
	}
	return l
}

// sealed tells a block that begins with the text, the counts and the merge, with their right hash, whether there may be such a one or not.
func sealed(text string, blocks, inodes uint16, merge uint64) api.Block {
	data := []byte(text)
	data = binary.LittleEndian.AppendUint16(data, blocks)
	data = binary.LittleEndian.AppendUint16(data, inodes)
	data = binary.LittleEndian.AppendUint64(data, merge)
	h := fnv.New32a()
	h.Write(data)
	b := api.Block{}
	copy(b[:], binary.LittleEndian.AppendUint32(data, h.Sum32()))
	return b
}

// first tells the layout's first block, by the library.
func first(l api.Layout) api.Block {
	return sealed("escheat1", uint16(l.Blocks), uint16(l.Inodes), l.Merge)
}

// none fails, if b is a first block.
func none(t *testing.T, why string, b api.Block) {
	t.Helper()
	if got, err := super.Get(b); got != (api.Layout{}) || err != api.ErrSuper {
		t.Fatalf("Get of %s: %v %d, want none and ErrSuper", why, got, err)
	}
}

// Promise 14.1: each count from below to past what may be, and great ones, whatever Merge is.
func TestCheck(t *testing.T) {
	check := func(l api.Layout) {
		want := api.ErrArg
		if mayBe(l) {
			want = api.OK
		}
		if got := super.Check(l); got != want {
			t.Fatalf("Check of %v: %d, want %d", l, got, want)
		}
	}
	m := merges()
	for blocks := -20; blocks < 600; blocks++ {
		for inodes := -20; inodes < 300; inodes++ {
			check(api.Layout{Blocks: blocks, Inodes: inodes, Merge: m[(blocks+inodes+40)%len(m)]})
		}
	}
	for _, l := range others() {
		check(l)
	}
	for _, l := range some() {
		check(l)
	}
}

// Promise 14.1: by hand.
func TestCheckByHand(t *testing.T) {
	for _, k := range []struct {
		blocks, inodes int
		want           api.Errno
	}{
		{16, 8, api.OK}, {15, 8, api.ErrArg}, {512, 8, api.OK}, {513, 8, api.ErrArg}, {16, 16, api.OK}, {300, 64, api.OK}, {512, 128, api.OK},
		{16, 0, api.ErrArg}, {16, 7, api.ErrArg}, {16, 9, api.ErrArg}, {16, 12, api.ErrArg}, {16, 15, api.ErrArg}, {512, 127, api.ErrArg}, {512, 136, api.ErrArg}, {512, 129, api.ErrArg},
		{16, 104, api.OK}, {16, 112, api.ErrArg}, {17, 112, api.OK}, {16, 120, api.ErrArg}, {17, 120, api.ErrArg}, {18, 120, api.OK},
		{16, 128, api.ErrArg}, {17, 128, api.ErrArg}, {18, 128, api.ErrArg}, {19, 128, api.OK}, {20, 128, api.OK},
		{0, 0, api.ErrArg}, {0, 8, api.ErrArg}, {-16, 8, api.ErrArg}, {16, -8, api.ErrArg}, {-16, -8, api.ErrArg}, {8, 16, api.ErrArg},
		{65536 + 16, 8, api.ErrArg}, {16, 65536 + 8, api.ErrArg}, {1<<32 + 16, 8, api.ErrArg}, {16, 1<<32 + 8, api.ErrArg},
		{math.MaxInt, 8, api.ErrArg}, {math.MinInt, 8, api.ErrArg}, {16, math.MaxInt - 7, api.ErrArg}, {16, math.MinInt, api.ErrArg},
	} {
		for _, merge := range merges() {
			if got := super.Check(api.Layout{Blocks: k.blocks, Inodes: k.inodes, Merge: merge}); got != k.want {
				t.Errorf("Check of %d blocks, %d inodes, Merge %d: %d, want %d", k.blocks, k.inodes, merge, got, k.want)
			}
		}
	}
}

// Promise 14.1: layouts are the same where all three numbers are, whether they may be or not.
func TestSame(t *testing.T) {
	numbers := []int{math.MinInt, -1, 0, 8, 16, 64, 512, 65536 + 16, math.MaxInt}
	bits := []uint64{0, 1, 1 << 32, 1 << 63, 9221120237041090560, 9221120237041090560 | 1<<63, math.MaxUint64}
	var l []api.Layout
	for _, blocks := range numbers {
		for _, inodes := range numbers {
			for _, merge := range bits {
				l = append(l, api.Layout{Blocks: blocks, Inodes: inodes, Merge: merge})
			}
		}
	}
	for i, a := range l {
		for k, b := range l {
			if got := super.Same(a, b); got != (i == k) {
				t.Fatalf("Same of %v and %v: %v", a, b, got)
			}
		}
	}
}

// Promise 14.1: noughts with and without a sign, and what is no number, are told apart by their bits alone.
func TestSameByHand(t *testing.T) {
	of := func(x float64) api.Layout {
		return api.Layout{Blocks: 16, Inodes: 8, Merge: math.Float64bits(x)}
	}
	if super.Same(of(0), of(math.Copysign(0, -1))) {
		t.Error("+0 and -0 are told as the same")
	}
	if !super.Same(of(math.NaN()), of(math.NaN())) {
		t.Error("what is no number, with the same bits, is not told as the same")
	}
	if !super.Same(api.Layout{}, api.Layout{}) || super.Same(api.Layout{Blocks: 16, Inodes: 8}, api.Layout{Blocks: 8, Inodes: 16}) {
		t.Error("Same of the zero one, or of numbers in another order")
	}
}

// Promise 14.2: every pair of counts, and every Merge.
func TestPut(t *testing.T) {
	for _, l := range append(layouts(), some()...) {
		if got, err := super.Put(l); got != first(l) || err != api.OK {
			t.Fatalf("Put of %v: %v %d, want %v", l, got, err, first(l))
		}
	}
}

// byHand are layouts, and what stands ahead in their first blocks, written by hand.
func byHand() []struct {
	l    api.Layout
	want api.Block
} {
	return []struct {
		l    api.Layout
		want api.Block
	}{
		{api.Layout{Blocks: 16, Inodes: 8, Merge: 0}, api.Block{101, 115, 99, 104, 101, 97, 116, 49, 16, 0, 8, 0, 0, 0, 0, 0, 0, 0, 0, 0, 195, 87, 173, 250}},
		{api.Layout{Blocks: 512, Inodes: 128, Merge: 0x0807060504030201}, api.Block{101, 115, 99, 104, 101, 97, 116, 49, 0, 2, 128, 0, 1, 2, 3, 4, 5, 6, 7, 8, 41, 47, 186, 153}},
		{api.Layout{Blocks: 300, Inodes: 64, Merge: math.Float64bits(1)}, api.Block{101, 115, 99, 104, 101, 97, 116, 49, 44, 1, 64, 0, 0, 0, 0, 0, 0, 0, 240, 63, 161, 126, 1, 0}},
		{api.Layout{Blocks: 19, Inodes: 128, Merge: math.MaxUint64}, api.Block{101, 115, 99, 104, 101, 97, 116, 49, 19, 0, 128, 0, 255, 255, 255, 255, 255, 255, 255, 255, 96, 173, 155, 46}},
	}
}

// Promise 14.2 and the chapter's example 1: each byte, there and back.
func TestPutAndGetByHand(t *testing.T) {
	for _, k := range byHand() {
		if got, err := super.Put(k.l); got != k.want || err != api.OK {
			t.Errorf("Put of %v: %v %d, want %v", k.l, got, err, k.want)
		}
		if got, err := super.Get(k.want); got != k.l || err != api.OK {
			t.Errorf("Get of %v: %v %d, want %v", k.want, got, err, k.l)
		}
	}
}

// Promise 14.2: Check's error, and a block of noughts, of what may not be.
func TestPutOfOthers(t *testing.T) {
	for _, l := range others() {
		if got, err := super.Put(l); got != (api.Block{}) || err != api.ErrArg {
			t.Fatalf("Put of %v: %v %d, want noughts and ErrArg", l, got, err)
		}
	}
}

// Promise 14.2: the layout of each block that the library wrote.
func TestGet(t *testing.T) {
	for _, l := range append(layouts(), some()...) {
		if got, err := super.Get(first(l)); got != l || err != api.OK {
			t.Fatalf("Get of the block of %v: %v %d", l, got, err)
		}
	}
}

// Promise 14.2 and the chapter's example 2: blocks that are nothing of the kind.
func TestGetOfOthers(t *testing.T) {
	none(t, "noughts", api.Block{})
	full := api.Block{}
	for at := range full {
		full[at] = 0xff
	}
	none(t, "ones", full)
	r := rand.New(rand.NewSource(14))
	for range 10000 {
		b := api.Block{}
		r.Read(b[:])
		none(t, "noise", b)
		copy(b[:], "escheat1")
		none(t, "noise behind the text", b)
		// What stands behind is noise, all ahead of it right.
		whole := first(api.Layout{Blocks: 16, Inodes: 8, Merge: r.Uint64()})
		copy(b[:], whole[:24])
		none(t, "a first block with noise behind", b)
	}
}

// Promise 14.2: a block with a right hash, but of a layout that may not be: every count of a small device, and edges of two bytes.
func TestGetOfWhatMayNotBe(t *testing.T) {
	check := func(blocks, inodes uint16) {
		l := api.Layout{Blocks: int(blocks), Inodes: int(inodes), Merge: 1 << 40}
		got, err := super.Get(first(l))
		if mayBe(l) && (got != l || err != api.OK) || !mayBe(l) && (got != (api.Layout{}) || err != api.ErrSuper) {
			t.Fatalf("Get of the block of %v: %v %d", l, got, err)
		}
	}
	for blocks := range uint16(600) {
		for inodes := range uint16(300) {
			check(blocks, inodes)
		}
	}
	for _, blocks := range []uint16{16, 512, 0x1000, 0x1010, 0x7fff, 0x8000, 0x8010, 0xff10, 0xfff8, 0xffff} {
		for _, inodes := range []uint16{8, 128, 0x0800, 0x0808, 0x7ff8, 0x8000, 0x8008, 0xff08, 0xfff8, 0xffff} {
			check(blocks, inodes)
		}
	}
}

// Promise 14.2: another text, with its right hash, and hashes that are not right.
func TestGetOfAnotherText(t *testing.T) {
	if got, err := super.Get(sealed("escheat1", 16, 8, 0)); got != (api.Layout{Blocks: 16, Inodes: 8}) || err != api.OK {
		t.Fatalf("Get of the right text: %v %d", got, err)
	}
	for _, text := range []string{"escheat0", "escheat2", "Escheat1", "escheat\x00", "scheat1e", "\x00\x00\x00\x00\x00\x00\x00\x00", "ESCHEAT1", "escheat ", "1escheat"} {
		none(t, text, sealed(text, 16, 8, 0))
	}
	for _, hash := range [][]byte{{0, 0, 0, 0}, {255, 255, 255, 255}, {250, 173, 87, 195}, {195, 87, 173, 251}, {196, 87, 173, 250}} {
		b := sealed("escheat1", 16, 8, 0)
		copy(b[20:], hash)
		none(t, "a wrong hash", b)
	}
}

// Promise 14.2: what is right, but at another place.
func TestGetOfAnotherPlace(t *testing.T) {
	whole := first(api.Layout{Blocks: 300, Inodes: 64, Merge: 0x0807060504030201})
	for by := 1; by < len(whole); by++ {
		b := api.Block{}
		copy(b[by:], whole[:])
		none(t, "a block that begins later", b)
		b = api.Block{}
		copy(b[:], whole[by:])
		none(t, "a block whose beginning is not there", b)
		if by < 24 {
			b = api.Block{}
			copy(b[:], whole[:by])
			none(t, "a block that ends too soon", b)
		}
	}
}

// Promise 14.3: Get of Put is the layout, and unlike layouts have unlike blocks.
func TestGetOfPut(t *testing.T) {
	of := map[api.Block]api.Layout{}
	for _, l := range append(layouts(), some()...) {
		b, err := super.Put(l)
		if err != api.OK {
			t.Fatalf("Put of %v: %d", l, err)
		}
		got, err := super.Get(b)
		if err != api.OK || got != l || !super.Same(got, l) {
			t.Fatalf("Get of Put of %v: %v %d", l, got, err)
		}
		if other, is := of[b]; is && other != l {
			t.Fatalf("Put of %v and of %v are the same", l, other)
		}
		of[b] = l
	}
}

// Promise 14.3: a first block in which just one byte is another one, of each place and each other value, is none.
func TestOneByteIsAnotherOne(t *testing.T) {
	for _, l := range []api.Layout{{Blocks: 16, Inodes: 8}, {Blocks: 512, Inodes: 128, Merge: math.MaxUint64}, {Blocks: 256, Inodes: 64, Merge: 0x0807060504030201}, {Blocks: 300, Inodes: 104, Merge: math.Float64bits(0.5)}, {Blocks: 19, Inodes: 128, Merge: math.Float64bits(math.NaN())}} {
		b, err := super.Put(l)
		if err != api.OK {
			t.Fatalf("Put of %v: %d", l, err)
		}
		for at := range b {
			kept := b[at]
			for v := range 256 {
				if byte(v) != kept {
					b[at] = byte(v)
					none(t, "a block with another byte", b)
				}
			}
			b[at] = kept
		}
		if got, err := super.Get(b); got != l || err != api.OK {
			t.Fatalf("Get of the block of %v: %v %d", l, got, err)
		}
	}
}

// Promise P1: every call ends and none panics, whatever it is given, and answers the same when it is asked again.
func TestAnyArguments(t *testing.T) {
	r := rand.New(rand.NewSource(1))
	var ahead api.Layout
	for _, blocks := range counts() {
		for _, inodes := range counts() {
			for _, merge := range merges() {
				l := api.Layout{Blocks: blocks, Inodes: inodes, Merge: merge}
				one, err := super.Put(l)
				two, again := super.Put(l)
				if one != two || err != again || err != super.Check(l) {
					t.Fatalf("Put of %v: %d, then %d, Check: %d", l, err, again, super.Check(l))
				}
				super.Same(l, ahead)
				ahead = l
			}
		}
	}
	for range 10000 {
		b := first(api.Layout{Blocks: r.Int(), Inodes: r.Int(), Merge: r.Uint64()})
		b[r.Intn(256)] = byte(r.Int())
		one, err := super.Get(b)
		two, again := super.Get(b)
		if one != two || err != again {
			t.Fatalf("Get of %v: %v %d, then %v %d", b, one, err, two, again)
		}
	}
}
