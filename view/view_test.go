package view_test

import (
	"encoding/binary"
	"math"
	"math/rand"
	"slices"
	"testing"

	"escheat/api"
	"escheat/cache"
	"escheat/disk"
	"escheat/inode"
	"escheat/super"
	"escheat/view"
)

// layouts may be, at the edges of what may.
func layouts() []api.Layout {
	return []api.Layout{{Blocks: 16, Inodes: 8}, {Blocks: 16, Inodes: 16, Merge: 1}, {Blocks: 16, Inodes: 104}, {Blocks: 17, Inodes: 112, Merge: math.Float64bits(math.NaN())}, {Blocks: 19, Inodes: 128},
		{Blocks: 100, Inodes: 24, Merge: 1 << 63}, {Blocks: 255, Inodes: 64}, {Blocks: 256, Inodes: 72}, {Blocks: 512, Inodes: 8}, {Blocks: 512, Inodes: 128, Merge: math.MaxUint64}}
}

// others may not be.
func others() []api.Layout {
	return []api.Layout{{}, {Merge: 7}, {Blocks: 15, Inodes: 8}, {Blocks: 513, Inodes: 8}, {Blocks: 16, Inodes: 0}, {Blocks: 16, Inodes: 7}, {Blocks: 16, Inodes: 9}, {Blocks: 16, Inodes: 112}, {Blocks: 18, Inodes: 128}, {Blocks: 512, Inodes: 136},
		{Blocks: 1, Inodes: 8}, {Blocks: 3, Inodes: 8}, {Blocks: -16, Inodes: 8}, {Blocks: 16, Inodes: -8}, {Blocks: 65536 + 16, Inodes: 8}, {Blocks: 16, Inodes: 65536 + 8}, {Blocks: math.MaxInt, Inodes: 8}, {Blocks: math.MaxInt, Inodes: math.MaxInt - 7}, {Blocks: math.MinInt, Inodes: math.MinInt}}
}

// wild are numbers of blocks and inodes: all edges, and such as would wrap round.
func wild() []int {
	return []int{math.MinInt, math.MinInt + 1, math.MinInt32, -65536, -2048, -512, -9, -8, -1, 0, 1, 2, 3, 4, 7, 8, 9, 14, 15, 16, 17, 18, 19, 99, 100, 101, 103, 104, 105, 127, 128, 129, 254, 255, 256, 257, 511, 512, 513, 1024, 2047, 2048, 65536, 65537, math.MaxInt32, 1 << 32, 1<<32 + 1, 1<<32 + 3, 1 << 62, math.MaxInt - 7, math.MaxInt - 1, math.MaxInt}
}

// noise tells n blocks of any bytes.
func noise(n int, seed int64) []api.Block {
	r := rand.New(rand.NewSource(seed))
	l := make([]api.Block, n)
	for no := range l {
		r.Read(l[no][:])
	}
	return l
}

// device tells blocks of any bytes behind a first one that has the layout.
func device(t *testing.T, l api.Layout, seed int64) []api.Block {
	t.Helper()
	first, err := super.Put(l)
	if err != api.OK {
		t.Fatal(l, err)
	}
	blocks := noise(l.Blocks, seed)
	blocks[0] = first
	return blocks
}

// of tells the view of these blocks, which has to be one.
func of(t *testing.T, blocks []api.Block) view.View {
	t.Helper()
	v, err := view.Of(blocks)
	if err != api.OK {
		t.Fatal(err)
	}
	return v
}

// over tells a view that is made without Of or On, over these blocks, whose function panics where there is none.
func over(l api.Layout, blocks []api.Block) view.View {
	return view.View{L: l, Get: func(no int) api.Block { return blocks[no] }}
}

// isNone tells whether the view is the zero one.
func isNone(v view.View) bool {
	return v.L == api.Layout{} && v.Get == nil
}

// raw tells an inode's by the library.
func raw(i api.Inode) [32]byte {
	b := [32]byte{0: byte(i.Kind)}
	binary.LittleEndian.PutUint16(b[2:], uint16(i.Links))
	binary.LittleEndian.PutUint32(b[4:], uint32(i.Size))
	binary.LittleEndian.PutUint16(b[8:], uint16(i.Parent))
	for k, no := range i.Direct {
		binary.LittleEndian.PutUint16(b[10+2*k:], uint16(no))
	}
	binary.LittleEndian.PutUint16(b[22:], uint16(i.Indirect))
	return b
}

// inodes may be, and are files or directories.
func inodes() []api.Inode {
	return []api.Inode{{Kind: 1}, {Kind: 2}, {Kind: 1, Links: 1, Size: 258, Direct: [6]int{9, 8, 7, 6, 5, 4}, Indirect: 3}, {Kind: 2, Links: 1, Parent: 1, Direct: [6]int{9}},
		{Kind: 1, Size: 34304}, {Kind: 2, Links: 65535, Size: 34304, Parent: 65535, Direct: [6]int{65535, 65535, 65535, 65535, 65535, 65535}, Indirect: 65535}, {Kind: 1, Links: 258, Parent: 513}}
}

// unclean are bytes of no inode.
func unclean() [][32]byte {
	l := [][32]byte{{0: 3}, {0: 255}, {0: 4, 2: 1}, {2: 1}, {4: 1}, {8: 1}, {10: 1}, {23: 1}, {1: 1}, {31: 1}, {24: 1}, {0: 1, 1: 1}, {0: 1, 24: 1}, {0: 2, 31: 255}, {0: 1, 4: 1, 5: 0x86}, {0: 1, 6: 1}, {0: 2, 7: 128}}
	var ones [32]byte
	for k := range ones {
		ones[k] = 255
	}
	return append(l, ones)
}

// lay puts the bytes where the chapters say that the inode stands.
func lay(blocks []api.Block, ino int, b [32]byte) {
	copy(blocks[2+(ino-1)/8][32*((ino-1)%8):], b[:])
}

// empty makes noughts of all the inodes' bytes.
func empty(l api.Layout, blocks []api.Block) {
	for ino := range l.Inodes {
		lay(blocks, ino+1, [32]byte{})
	}
}

// Promise 21.1, and the chapter's example 1: what is no device.
func TestOfErrors(t *testing.T) {
	refused := func(what string, l []api.Block) {
		t.Helper()
		if v, err := view.Of(l); err != api.ErrSuper || !isNone(v) {
			t.Errorf("Of %s: %v %v", what, v.L, err)
		}
	}
	refused("nothing", nil)
	refused("no block", []api.Block{})
	for _, n := range []int{1, 15, 16, 17, 512, 513, 1000} {
		refused("noughts", make([]api.Block, n))
		refused("noise", noise(n, int64(n)))
	}
	for _, l := range layouts() {
		blocks := device(t, l, 1)
		refused("one too few", blocks[:l.Blocks-1])
		refused("the first alone", blocks[:1])
		refused("one too many", append(slices.Clone(blocks), api.Block{}))
		refused("twice as many", slices.Concat(blocks, blocks))
		refused("a first block behind another one", slices.Concat(blocks[1:], blocks[:1]))
		for at := range blocks[0] {
			blocks[0][at] ^= 1 << (at % 8)
			refused("a byte that is another one", blocks)
			blocks[0][at] ^= 1 << (at % 8)
		}
		of(t, blocks)
	}
}

// Promise 21.1: the counts of a first block and of the list are held against each other, whichever they are.
func TestOfCounts(t *testing.T) {
	counts := []int{16, 17, 18, 31, 32, 255, 256, 257, 511, 512}
	for _, says := range counts {
		first, _ := super.Put(api.Layout{Blocks: says, Inodes: 8})
		for _, has := range counts {
			l := noise(has, 3)
			l[0] = first
			v, err := view.Of(l)
			if says == has && (err != api.OK || v.L.Blocks != has) || says != has && (err != api.ErrSuper || !isNone(v)) {
				t.Errorf("Of %d blocks that say %d: %v %v", has, says, v.L, err)
			}
		}
	}
}

// Promises 21.1 and 21.2: the layout, and each block.
func TestOf(t *testing.T) {
	for n, l := range layouts() {
		blocks := device(t, l, int64(n))
		v := of(t, blocks)
		if v.L != l || v.Get == nil {
			t.Fatalf("Of %v: %v", l, v.L)
		}
		for no, want := range blocks {
			if v.Block(no) != want || v.Get(no) != want {
				t.Fatalf("Of %v: the block %d", l, no)
			}
		}
		for _, no := range append(wild(), l.Blocks, -l.Blocks) {
			if no >= 0 && no < l.Blocks {
				continue
			}
			if v.Block(no) != (api.Block{}) || v.Get(no) != (api.Block{}) {
				t.Fatalf("Of %v: the block %d, which there is not", l, no)
			}
		}
		if !slices.Equal(v.Image(), blocks) {
			t.Fatalf("Of %v: another Image", l)
		}
	}
}

// Promise 21.1, with R4: what is handed in is not changed and not kept, and an image is new.
func TestOfKeepsItsOwn(t *testing.T) {
	l := api.Layout{Blocks: 20, Inodes: 16}
	blocks := device(t, l, 5)
	kept := slices.Clone(blocks)
	v := of(t, blocks)
	v.Inodes()
	image := v.Image()
	if !slices.Equal(blocks, kept) {
		t.Error("Of changed what was handed in")
	}
	for no := range blocks {
		blocks[no], image[no] = api.Block{}, api.Block{7}
	}
	if !slices.Equal(v.Image(), kept) || v.Block(3) != kept[3] || v.Block(0) != kept[0] {
		t.Error("the view shares the blocks")
	}
	w := of(t, kept)
	again := w.Image()
	again[4][4]++
	if w.Block(4) != kept[4] || w.Image()[4] != kept[4] {
		t.Error("two images share their blocks")
	}
}

// Promise 21.1: what get tells, but noughts where that tells an error, of any layout and any number.
func TestOn(t *testing.T) {
	told := func(no int) api.Block {
		var b api.Block
		binary.LittleEndian.PutUint64(b[9:], uint64(no))
		b[255] = 255
		return b
	}
	fails := func(no int) api.Errno { return api.Errno(uint(no) % 4 / 3 * uint(api.ErrDown)) }
	for _, l := range slices.Concat(layouts(), others()) {
		v := view.On(l, func(no int) (api.Block, api.Errno) { return told(no), fails(no) })
		if v.L != l || v.Get == nil {
			t.Fatalf("On %v: %v", l, v.L)
		}
		for _, no := range wild() {
			var want api.Block
			if uint(no)%4 != 3 {
				want = told(no)
			}
			if v.Get(no) != want {
				t.Fatalf("On %v: Get of %d: %v", l, no, v.Get(no))
			}
			if no < 0 || no >= l.Blocks {
				want = api.Block{}
			}
			if v.Block(no) != want {
				t.Fatalf("On %v: Block of %d: %v", l, no, v.Block(no))
			}
		}
	}
}

// Promise 21.1: noughts beside each error, also such as have no name.
func TestOnErrors(t *testing.T) {
	l := api.Layout{Blocks: 16, Inodes: 8}
	for err := api.Errno(-20); err <= 20; err++ {
		v := view.On(l, func(no int) (api.Block, api.Errno) { return api.Block{1, 2, 3}, err })
		want := api.Block{}
		if err == api.OK {
			want = api.Block{1, 2, 3}
		}
		if v.Get(3) != want || v.Block(3) != want || v.Image()[3] != want {
			t.Errorf("beside the error %d: %v", err, v.Block(3))
		}
	}
}

// Promise 21.1: without a function there are noughts.
func TestOnNil(t *testing.T) {
	for _, l := range slices.Concat(layouts(), others()) {
		v := view.On(l, nil)
		if v.L != l || v.Get == nil {
			t.Fatalf("On %v without a function: %v", l, v.L)
		}
		for _, no := range wild() {
			if v.Get(no) != (api.Block{}) || v.Block(no) != (api.Block{}) {
				t.Fatalf("On %v without a function: the block %d", l, no)
			}
		}
	}
	if got := view.On(layouts()[0], nil).Image(); !slices.Equal(got, make([]api.Block, 16)) {
		t.Error(got)
	}
}

// Promise 21.1: a view over blocks in memory tells what they tell when it is asked, and noughts where the device can't be read.
func TestOnCache(t *testing.T) {
	l := api.Layout{Blocks: 16, Inodes: 16}
	blocks := device(t, l, 8)
	empty(l, blocks)
	d, err := disk.From(blocks)
	if err != api.OK {
		t.Fatal(err)
	}
	c := cache.New(d)
	v := view.On(l, c.Get)
	if !slices.Equal(v.Image(), blocks) || len(v.Inodes()) != 0 {
		t.Fatal("over a cache without changes")
	}
	i := inodes()[2]
	data := raw(i)
	if _, err := c.Put(3, api.Patch{At: 32, Data: data[:]}); err != api.OK {
		t.Fatal(err)
	}
	if v.Inode(10) != i || !slices.Equal(v.Inodes(), []int{10}) || d.Writes() != 0 {
		t.Error("a change in memory:", v.Inode(10), v.Inodes())
	}
	fresh := view.On(l, cache.New(d).Get)
	if fresh.Inode(10) != (api.Inode{}) {
		t.Error("the device has it already")
	}
	d.Fuse(0)
	d.Write(0, blocks[0])
	if !d.Down() || fresh.Block(4) != (api.Block{}) || fresh.Block(3) != blocks[3] || v.Block(4) != blocks[4] {
		t.Error("with the power off")
	}
}

// Promise 21.2: a view that was made by hand is asked of its own blocks alone, whether its layout may be or not.
func TestBlock(t *testing.T) {
	blocks := noise(600, 9)
	for _, l := range slices.Concat(layouts(), []api.Layout{{}, {Blocks: 1}, {Blocks: 15, Inodes: 8}, {Blocks: 16}, {Blocks: 513, Inodes: 8}, {Blocks: 600, Inodes: -1}, {Blocks: -1}, {Blocks: math.MinInt, Inodes: 8}}) {
		v := over(l, blocks)
		for _, no := range append(wild(), l.Blocks-1, l.Blocks, l.Blocks+1, 599, 600) {
			want := api.Block{}
			if no >= 0 && no < l.Blocks {
				want = blocks[no]
			}
			if v.Block(no) != want {
				t.Fatalf("of %v: Block of %d", l, no)
			}
			if (view.View{L: l}).Block(no) != (api.Block{}) {
				t.Fatalf("of %v without a function: Block of %d", l, no)
			}
		}
	}
	great := view.View{L: api.Layout{Blocks: math.MaxInt}, Get: func(no int) api.Block { return api.Block{1} }}
	if great.Block(math.MaxInt-1) != (api.Block{1}) || great.Block(math.MaxInt) != (api.Block{}) {
		t.Error("at the greatest number")
	}
}

// Promise 21.2: all blocks of a layout that may be, none of another one.
func TestImage(t *testing.T) {
	blocks := noise(512, 10)
	for _, l := range layouts() {
		if got := over(l, blocks).Image(); !slices.Equal(got, blocks[:l.Blocks]) {
			t.Errorf("of %v: %d blocks", l, len(got))
		}
		if got := (view.View{L: l}).Image(); !slices.Equal(got, make([]api.Block, l.Blocks)) {
			t.Errorf("of %v without a function: %d blocks", l, len(got))
		}
	}
	for _, l := range others() {
		any := view.View{L: l, Get: func(no int) api.Block { return api.Block{1} }}
		if any.Image() != nil || (view.View{L: l}).Image() != nil || view.On(l, nil).Image() != nil {
			t.Errorf("of %v, which may not be", l)
		}
	}
}

// Promise 21.3: by hand.
func TestInodeByHand(t *testing.T) {
	l := api.Layout{Blocks: 16, Inodes: 16}
	blocks := device(t, l, 11)
	empty(l, blocks)
	blocks[2][0], blocks[2][2] = 2, 1
	copy(blocks[2][224:], []byte{1, 0, 1, 0, 2, 1, 0, 0, 0, 0, 5})
	copy(blocks[3][0:], []byte{2, 0, 0, 1, 0, 0, 0, 0, 7, 0, 255, 1})
	copy(blocks[3][224:], []byte{3})
	v := of(t, blocks)
	for ino, want := range map[int]api.Inode{1: {Kind: 2, Links: 1}, 2: {}, 8: {Kind: 1, Links: 1, Size: 258, Direct: [6]int{5}}, 9: {Kind: 2, Links: 256, Parent: 7, Direct: [6]int{511}}, 16: {}, 0: {}, 17: {}, -1: {}, -7: {}} {
		if got := v.Inode(ino); got != want {
			t.Errorf("Inode %d: %v, want %v", ino, got, want)
		}
	}
	if got := v.Inodes(); !slices.Equal(got, []int{1, 8, 9}) {
		t.Error("Inodes:", got)
	}
}

// Promise 21.3: each inode at each place, clean or not, whatever stands around it.
func TestInode(t *testing.T) {
	for n, l := range layouts() {
		blocks := device(t, l, int64(20+n))
		for ino := 1; ino <= l.Inodes; ino++ {
			for _, i := range inodes() {
				lay(blocks, ino, raw(i))
				if got := over(l, blocks).Inode(ino); got != i {
					t.Fatalf("of %v: Inode %d: %v, want %v", l, ino, got, i)
				}
			}
			for _, b := range append(unclean(), [32]byte{}) {
				lay(blocks, ino, b)
				if got := over(l, blocks).Inode(ino); got != (api.Inode{}) {
					t.Fatalf("of %v: Inode %d of %v: %v", l, ino, b, got)
				}
			}
			lay(blocks, ino, raw(inodes()[ino%7]))
		}
		v := of(t, blocks)
		for ino := 1; ino <= l.Inodes; ino++ {
			if got := v.Inode(ino); got != inodes()[ino%7] {
				t.Fatalf("of %v: Inode %d: %v", l, ino, got)
			}
		}
	}
}

// Promise 21.3: inodes that there are not, though a data block looks as if it had some.
func TestInodeOfNone(t *testing.T) {
	for _, l := range layouts() {
		blocks := device(t, l, 12)
		for no := 1; no < l.Blocks; no++ {
			for k := range 8 {
				b := raw(api.Inode{Kind: 1, Links: 1, Size: no})
				copy(blocks[no][32*k:], b[:])
			}
		}
		v := of(t, blocks)
		for _, ino := range append(wild(), l.Inodes, l.Inodes+1, l.Inodes+8) {
			want := api.Inode{}
			if ino >= 1 && ino <= l.Inodes {
				want = api.Inode{Kind: 1, Links: 1, Size: 2 + (ino-1)/8}
			}
			if got := v.Inode(ino); got != want {
				t.Fatalf("of %v: Inode %d: %v, want %v", l, ino, got, want)
			}
		}
		if got := v.Inodes(); len(got) != l.Inodes || got[0] != 1 || got[l.Inodes-1] != l.Inodes {
			t.Fatalf("of %v: Inodes: %v", l, got)
		}
	}
}

// Promise 21.3: tables of all kinds, with free places, clean and unclean ones.
func TestInodes(t *testing.T) {
	r := rand.New(rand.NewSource(13))
	for n := range 300 {
		l := layouts()[n%len(layouts())]
		blocks := device(t, l, int64(n))
		var want []int
		for ino := 1; ino <= l.Inodes; ino++ {
			switch r.Intn(1 + n%4) {
			case 0:
				lay(blocks, ino, [32]byte{})
			case 1:
				lay(blocks, ino, unclean()[r.Intn(len(unclean()))])
			default:
				lay(blocks, ino, raw(inodes()[r.Intn(7)]))
				want = append(want, ino)
			}
		}
		v := of(t, blocks)
		if got := v.Inodes(); !slices.Equal(got, want) {
			t.Fatalf("Inodes: %v, want %v", got, want)
		}
		for ino := 1; ino <= l.Inodes; ino++ {
			if is := v.Inode(ino).Kind != api.Free; is != slices.Contains(want, ino) {
				t.Fatalf("Inode %d: %v", ino, is)
			}
		}
	}
}

// Promise 21.3: any bytes at all; just those are told that are clean, each alone.
func TestInodesOfNoise(t *testing.T) {
	r := rand.New(rand.NewSource(14))
	for n := range 200 {
		l := layouts()[n%len(layouts())]
		blocks := device(t, l, int64(n))
		var want []int
		for ino := 1; ino <= l.Inodes; ino++ {
			var b [32]byte
			for range r.Intn(5) {
				b[r.Intn(32)] = byte(r.Intn(4))
			}
			lay(blocks, ino, b)
			i, is := inode.Clean(b)
			if got := over(l, blocks).Inode(ino); got != i {
				t.Fatalf("Inode of %v: %v, want %v", b, got, i)
			}
			if is && b != [32]byte{} {
				want = append(want, ino)
			}
		}
		if got := of(t, blocks).Inodes(); !slices.Equal(got, want) {
			t.Fatalf("Inodes: %v, want %v", got, want)
		}
	}
}

// Promise 21.3: each block's bit, and none of blocks that there are not, though the map has their bits.
func TestUsed(t *testing.T) {
	for n, l := range layouts() {
		blocks := device(t, l, int64(30+n))
		ones := slices.Clone(blocks)
		for at := range ones[1] {
			ones[1][at] = 255
		}
		none := slices.Clone(blocks)
		none[1] = api.Block{}
		for no := -2100; no <= 2100; no++ {
			there := no >= 0 && no < l.Blocks
			if got, want := over(l, blocks).Used(no), there && blocks[1][no/8]>>(no%8)&1 == 1; got != want {
				t.Fatalf("of %v: Used of %d: %v", l, no, got)
			}
			if got := over(l, ones).Used(no); got != there {
				t.Fatalf("of %v and ones: Used of %d: %v", l, no, got)
			}
			if over(l, none).Used(no) {
				t.Fatalf("of %v and noughts: Used of %d", l, no)
			}
		}
		for _, no := range wild() {
			if got, want := of(t, ones).Used(no), no >= 0 && no < l.Blocks; got != want {
				t.Fatalf("of %v: Used of %d: %v", l, no, got)
			}
			if (view.View{L: l}).Used(no) {
				t.Fatalf("of %v without a function: Used of %d", l, no)
			}
		}
	}
}

// Promise 21.3: by hand.
func TestUsedByHand(t *testing.T) {
	l := api.Layout{Blocks: 16, Inodes: 8}
	blocks := device(t, l, 15)
	blocks[1] = api.Block{0x07, 0x81, 0xff}
	v := of(t, blocks)
	for no, want := range map[int]bool{0: true, 1: true, 2: true, 3: false, 7: false, 8: true, 9: false, 14: false, 15: true, 16: false, 17: false, -1: false, -8: false} {
		if got := v.Used(no); got != want {
			t.Errorf("Used of %d: %v", no, got)
		}
	}
}

// Promise 21.3: of a layout that may not be nothing is told, whatever its blocks are.
func TestLayoutsThatMayNotBe(t *testing.T) {
	var full api.Block
	for at := range full {
		full[at] = 255
	}
	for k := range 8 {
		b := raw(api.Inode{Kind: 1, Links: 1})
		copy(full[32*k:], b[:])
	}
	ones := view.On(layouts()[0], func(no int) (api.Block, api.Errno) { return full, api.OK })
	if len(ones.Inodes()) != 8 || !ones.Used(0) || ones.Inode(1).Kind != 1 {
		t.Fatal("of a layout that may be")
	}
	for _, l := range others() {
		v := view.View{L: l, Get: ones.Get}
		if v.Inodes() != nil {
			t.Errorf("of %v: Inodes: %v", l, v.Inodes())
		}
		for _, no := range wild() {
			if v.Inode(no) != (api.Inode{}) || v.Used(no) {
				t.Fatalf("of %v: Inode %d: %v, Used: %v", l, no, v.Inode(no), v.Used(no))
			}
		}
	}
}

// Promise 21.3, with R4: what Inodes tells is new each time.
func TestInodesAreNew(t *testing.T) {
	l := api.Layout{Blocks: 16, Inodes: 8}
	blocks := device(t, l, 16)
	empty(l, blocks)
	lay(blocks, 3, raw(inodes()[0]))
	lay(blocks, 5, raw(inodes()[1]))
	v := of(t, blocks)
	one := v.Inodes()
	for k := range one {
		one[k] = -1
	}
	if got := v.Inodes(); !slices.Equal(got, []int{3, 5}) {
		t.Error(got)
	}
}

// Promise 21.4: an image's view is the same again.
func TestImageAgain(t *testing.T) {
	for n, l := range layouts() {
		blocks := device(t, l, int64(40+n))
		empty(l, blocks)
		for ino := 1; ino <= l.Inodes; ino += 3 {
			lay(blocks, ino, raw(inodes()[ino%7]))
		}
		v := of(t, blocks)
		w := of(t, v.Image())
		if v.L != w.L || !slices.Equal(w.Image(), blocks) || !slices.Equal(v.Inodes(), w.Inodes()) {
			t.Fatalf("of %v: another view", l)
		}
		for no := -1; no <= l.Blocks; no++ {
			if v.Block(no) != w.Block(no) || v.Used(no) != w.Used(no) || v.Inode(no) != w.Inode(no) {
				t.Fatalf("of %v: another view at %d", l, no)
			}
		}
		if got := view.On(l, func(no int) (api.Block, api.Errno) { return v.Block(no), api.OK }).Image(); !slices.Equal(got, blocks) {
			t.Fatalf("of %v: another image of a view over it", l)
		}
	}
}

// Promise P1: every call ends and none panics, of the zero view, and whatever the layout, the blocks and the numbers are together.
func TestAnyArguments(t *testing.T) {
	gets := []func(no int) (api.Block, api.Errno){nil, func(no int) (api.Block, api.Errno) { return api.Block{}, api.ErrRange }, func(no int) (api.Block, api.Errno) { return noise(1, int64(no))[0], api.OK }}
	all := []view.View{{}}
	for _, l := range slices.Concat(layouts()[:3], others()) {
		all = append(all, view.View{L: l})
		for _, get := range gets {
			all = append(all, view.On(l, get))
		}
	}
	for _, v := range all {
		for _, no := range wild() {
			v.Block(no)
			v.Inode(no)
			v.Used(no)
		}
		v.Inodes()
		v.Image()
	}
	zero := view.View{}
	if zero.Image() != nil || zero.Inodes() != nil || zero.Used(0) || zero.Inode(1) != (api.Inode{}) || zero.Block(0) != (api.Block{}) {
		t.Error("the zero view")
	}
}
