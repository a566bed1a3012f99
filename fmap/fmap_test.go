package fmap_test

import (
	"encoding/binary"
	"math"
	"math/rand"
	"slices"
	"testing"

	"escheat/api"
	"escheat/cache"
	"escheat/disk"
	"escheat/fmap"
	"escheat/index"
	"escheat/view"
)

// layouts may be, at the edges of what may; of each some blocks are data blocks.
func layouts() []api.Layout {
	return []api.Layout{{Blocks: 16, Inodes: 8}, {Blocks: 16, Inodes: 16, Merge: 1}, {Blocks: 16, Inodes: 104}, {Blocks: 19, Inodes: 128}, {Blocks: 100, Inodes: 24, Merge: 1 << 63},
		{Blocks: 256, Inodes: 72}, {Blocks: 257, Inodes: 8}, {Blocks: 512, Inodes: 8}, {Blocks: 512, Inodes: 128, Merge: math.MaxUint64}}
}

// others may not be: they have no data blocks.
func others() []api.Layout {
	return []api.Layout{{}, {Blocks: 15, Inodes: 8}, {Blocks: 513, Inodes: 8}, {Blocks: 100, Inodes: 0}, {Blocks: 100, Inodes: 7}, {Blocks: 100, Inodes: 9}, {Blocks: 16, Inodes: 112}, {Blocks: 512, Inodes: 136},
		{Blocks: 100, Inodes: -8}, {Blocks: -16, Inodes: 8}, {Blocks: math.MaxInt, Inodes: 8}, {Blocks: 100, Inodes: math.MinInt}}
}

// wild are numbers of blocks, places, kinds and sizes; of some of them the lowest bytes would be those of one that may be.
func wild() []int {
	return []int{math.MinInt, math.MinInt + 1, math.MinInt + 12, math.MinInt32, -65536, -65529, -512, -134, -128, -122, -7, -6, -3, -2, -1, 0, 1, 2, 3, 4, 5, 6, 7, 8, 9, 12, 15, 16, 17, 99, 100, 101, 126, 127, 128, 129, 133, 134, 135,
		255, 256, 257, 258, 511, 512, 513, 1536, 1537, 34303, 34304, 34305, 65535, 65536, 65541, 65543, math.MaxInt32, 1 << 32, 1<<32 + 5, 1<<32 + 9, 1 << 62, 1<<62 + 6, math.MaxInt - 127, math.MaxInt - 6, math.MaxInt - 1, math.MaxInt}
}

// kinds are of no file and no directory; of some the lowest byte would be that of one.
func kinds() []int {
	return []int{0, 3, 4, 255, 256, 257, 258, -1, -2, -255, -254, 65537, 65538, 1<<32 + 1, 1<<32 + 2, math.MinInt, math.MinInt + 1, math.MinInt + 2, math.MaxInt}
}

// first tells the first data block, by the words of layer 15.
func first(l api.Layout) int {
	return 2 + l.Inodes/8
}

// isData tells whether no is a data block, by the words of the layers 14 and 15.
func isData(l api.Layout, no int) bool {
	if l.Blocks < 16 || l.Blocks > 512 || l.Inodes < 8 || l.Inodes > 128 || l.Inodes%8 != 0 || first(l) >= l.Blocks {
		return false
	}
	return no >= first(l) && no < l.Blocks
}

// over tells the view of these blocks, whose function panics where there is none.
func over(l api.Layout, blocks []api.Block) view.View {
	return view.View{L: l, Get: func(no int) api.Block { return blocks[no] }}
}

// numbers tells a block of such numbers by the library.
func numbers(l ...int) api.Block {
	var b api.Block
	for k, no := range l {
		binary.LittleEndian.PutUint16(b[2*k:], uint16(no))
	}
	return b
}

// word tells the number k of a block by the library.
func word(b api.Block, k int) int {
	return int(binary.LittleEndian.Uint16(b[2*k:]))
}

// told tells an index's bytes by the library, whether it may be or not.
func told(depth int, l ...int) api.Block {
	b := api.Block{0: 'i', 1: 'd', 2: 'x', 3: '!', 4: byte(depth)}
	for place, no := range l {
		binary.LittleEndian.PutUint16(b[32+2*place:], uint16(no))
	}
	return b
}

// rising tells n numbers from from on.
func rising(from, n int) []int {
	var l []int
	for k := range n {
		l = append(l, from+k)
	}
	return l
}

// file tells what a file has at each k, by the words of the chapter.
func file(v view.View, i api.Inode) [134]int {
	var l [134]int
	if i.Kind != 1 {
		return l
	}
	for k := range l {
		no := 0
		if k < 6 {
			no = i.Direct[k]
		} else if isData(v.L, i.Indirect) {
			no = word(v.Get(i.Indirect), k-6)
		}
		if isData(v.L, no) {
			l[k] = no
		}
	}
	return l
}

// directory tells a directory's index and buckets, by the words of the chapter.
func directory(v view.View, i api.Inode) (index.Index, []int, bool) {
	if i.Kind != 2 || !isData(v.L, i.Direct[0]) {
		return index.Index{}, nil, false
	}
	b := v.Get(i.Direct[0])
	if string(b[:4]) != "idx!" || b[4] > 5 {
		return index.Index{}, nil, false
	}
	x := index.Index{Depth: int(b[4])}
	var l []int
	for place := range 1 << x.Depth {
		no := word(b, 16+place)
		x.To[place] = no
		if isData(v.L, no) && !slices.Contains(l, no) {
			l = append(l, no)
		}
	}
	if told(x.Depth, x.To[:]...) != b {
		return index.Index{}, nil, false
	}
	return x, l, true
}

// owns tells what is owned, by the words of the chapter.
func owns(v view.View, i api.Inode) []int {
	if _, l, has := directory(v, i); has {
		return append([]int{i.Direct[0]}, l...)
	}
	if i.Kind != 1 {
		return nil
	}
	at := file(v, i)
	l := slices.Clone(at[:6])
	if isData(v.L, i.Indirect) {
		l = append(append(l, i.Indirect), at[6:]...)
	}
	return slices.DeleteFunc(l, func(no int) bool { return no == 0 })
}

// check holds all calls against the words of the chapter.
func check(t *testing.T, v view.View, i api.Inode) {
	t.Helper()
	var blocks, beyond []int
	size := min(max(i.Size, 0), 34304)
	for k, no := range file(v, i) {
		if got := fmap.At(v, i, k); got != no {
			t.Fatalf("of %v: %v: At %d: %d, want %d", v.L, i, k, got, no)
		}
		if no == 0 {
			continue
		}
		blocks = append(blocks, no)
		if k*256 >= size {
			beyond = append(beyond, k)
		}
	}
	x, buckets, has := directory(v, i)
	if got, is := fmap.Index(v, i); got != x || is != has {
		t.Fatalf("of %v: %v: Index: %v %v, want %v %v", v.L, i, got, is, x, has)
	}
	for _, c := range []struct {
		what      string
		got, want []int
	}{{"Blocks", fmap.Blocks(v, i), blocks}, {"Beyond", fmap.Beyond(v, i), beyond}, {"Buckets", fmap.Buckets(v, i), buckets}, {"Owns", fmap.Owns(v, i), owns(v, i)}} {
		if !slices.Equal(c.got, c.want) {
			t.Fatalf("of %v: %v: %s: %v, want %v", v.L, i, c.what, c.got, c.want)
		}
	}
}

// isNothing tells that the inode owns nothing, whatever is asked.
func isNothing(t *testing.T, v view.View, i api.Inode) {
	t.Helper()
	for _, k := range append(rising(0, 140), wild()...) {
		if got := fmap.At(v, i, k); got != 0 {
			t.Fatalf("of %v: %v: At %d: %d", v.L, i, k, got)
		}
	}
	if x, has := fmap.Index(v, i); x != (index.Index{}) || has {
		t.Fatalf("of %v: %v: Index: %v %v", v.L, i, x, has)
	}
	for _, l := range [][]int{fmap.Blocks(v, i), fmap.Buckets(v, i), fmap.Owns(v, i), fmap.Beyond(v, i)} {
		if len(l) != 0 {
			t.Fatalf("of %v: %v: %v", v.L, i, l)
		}
	}
}

// small is a device of which the blocks from 3 to 15 are data blocks.
func small() view.View {
	blocks := make([]api.Block, 16)
	for no := range 3 {
		blocks[no] = numbers(rising(3, 13)...) // what stands ahead of Data is never asked
	}
	blocks[9] = told(2, 7, 8, 7, 9)
	blocks[10] = numbers(11, 0, 2, 3, 15, 16, 65535, 11)
	blocks[11] = told(1, 2, 16)
	return over(api.Layout{Blocks: 16, Inodes: 8}, blocks)
}

// Promise 22.1: by hand.
func TestAtByHand(t *testing.T) {
	v := small()
	i := api.Inode{Kind: 1, Direct: [6]int{9, 2, 3, 15, 16, -1}, Indirect: 10}
	want := map[int]int{0: 9, 2: 3, 3: 15, 6: 11, 9: 3, 10: 15, 13: 11}
	for k := -10; k < 200; k++ {
		if got := fmap.At(v, i, k); got != want[k] {
			t.Errorf("At %d: %d, want %d", k, got, want[k])
		}
	}
	if got := fmap.Blocks(v, i); !slices.Equal(got, []int{9, 3, 15, 11, 3, 15, 11}) {
		t.Error("Blocks:", got)
	}
	i.Indirect = 0
	if got := fmap.Blocks(v, i); !slices.Equal(got, []int{9, 3, 15}) {
		t.Error("Blocks without Indirect:", got)
	}
}

// Promise 22.1: a file that has all 134 blocks, and places that there are not.
func TestAtOfAll(t *testing.T) {
	l := api.Layout{Blocks: 512, Inodes: 128}
	blocks := slices.Repeat([]api.Block{numbers(rising(300, 128)...)}, 512)
	i := api.Inode{Kind: 1, Size: 34304, Direct: [6]int{200, 201, 202, 203, 204, 205}, Indirect: 511}
	v := over(l, blocks)
	all := append(rising(200, 6), rising(300, 128)...)
	for k, no := range all {
		if got := fmap.At(v, i, k); got != no {
			t.Errorf("At %d: %d, want %d", k, got, no)
		}
	}
	if got := fmap.Blocks(v, i); !slices.Equal(got, all) {
		t.Error("Blocks:", got)
	}
	for _, k := range wild() {
		if k >= 0 && k < 134 {
			continue
		}
		if got := fmap.At(v, i, k); got != 0 {
			t.Errorf("At %d: %d", k, got)
		}
	}
}

// Promise 22.1: each number at each place, told by the inode or by its block Indirect.
func TestAtNumbers(t *testing.T) {
	for _, l := range layouts() {
		blocks := make([]api.Block, l.Blocks)
		for _, no := range append(wild(), first(l)-1, first(l), first(l)+1, l.Blocks-1, l.Blocks, l.Blocks+1) {
			want := 0
			if isData(l, no) {
				want = no
			}
			for k := range 6 {
				i := api.Inode{Kind: 1}
				i.Direct[k] = no
				if got := fmap.At(over(l, blocks), i, k); got != want {
					t.Fatalf("of %v: At %d of Direct %d: %d", l, k, no, got)
				}
			}
			for k := 0; k < 128 && no >= 0 && no < 65536; k++ {
				tells := l.Blocks - 1
				blocks[tells] = api.Block{}
				binary.LittleEndian.PutUint16(blocks[tells][2*k:], uint16(no))
				if got := fmap.At(over(l, blocks), api.Inode{Kind: 1, Indirect: tells}, 6+k); got != want {
					t.Fatalf("of %v: At %d of the number %d: %d", l, 6+k, no, got)
				}
			}
		}
	}
}

// Promises 22.1 and 22.3: an Indirect that is no data block tells nothing, though the block of that number has numbers.
func TestIndirect(t *testing.T) {
	for _, l := range layouts() {
		blocks := slices.Repeat([]api.Block{numbers(slices.Repeat([]int{first(l)}, 128)...)}, l.Blocks)
		for _, no := range append(wild(), first(l)-1, first(l), l.Blocks-1, l.Blocks) {
			i := api.Inode{Kind: 1, Indirect: no}
			check(t, over(l, blocks), i)
			n, many := len(fmap.Owns(over(l, blocks), i)), len(fmap.Blocks(over(l, blocks), i))
			if is := isData(l, no); is && (n != 129 || many != 128) || !is && (n != 0 || many != 0) {
				t.Fatalf("of %v: Indirect %d: %d of %d", l, no, many, n)
			}
		}
	}
}

// Promises 22.1 to 22.3: an inode that is no file has no blocks, one that is no directory no index, and others own nothing.
func TestKinds(t *testing.T) {
	v := small()
	i := api.Inode{Links: 1, Direct: [6]int{9, 10, 11, 12, 13, 14}, Indirect: 10}
	for _, kind := range kinds() {
		i.Kind = kind
		isNothing(t, v, i)
	}
	i.Kind = 1
	if x, has := fmap.Index(v, i); x != (index.Index{}) || has || len(fmap.Buckets(v, i)) != 0 {
		t.Error("the index of a file:", x, has)
	}
	i.Kind = 2
	if fmap.At(v, i, 0) != 0 || fmap.At(v, i, 6) != 0 || len(fmap.Blocks(v, i)) != 0 || len(fmap.Beyond(v, i)) != 0 {
		t.Error("the blocks of a directory:", fmap.Blocks(v, i), fmap.Beyond(v, i))
	}
}

// Promise 22.2: by hand.
func TestIndexByHand(t *testing.T) {
	v := small()
	i := api.Inode{Kind: 2, Direct: [6]int{9}}
	x, has := fmap.Index(v, i)
	if want := (index.Index{Depth: 2, To: [32]int{7, 8, 7, 9}}); x != want || !has {
		t.Error(x, has)
	}
	if got := fmap.Buckets(v, i); !slices.Equal(got, []int{7, 8, 9}) {
		t.Error("Buckets:", got)
	}
	i.Direct[0] = 11
	x, has = fmap.Index(v, i)
	if want := (index.Index{Depth: 1, To: [32]int{2, 16}}); x != want || !has || len(fmap.Buckets(v, i)) != 0 {
		t.Error(x, has, fmap.Buckets(v, i))
	}
	i.Direct[0] = 10
	isNothing(t, v, i)
	isNothing(t, v, api.Inode{Kind: 2, Direct: [6]int{0, 9, 9, 9, 9, 9}, Indirect: 9})
}

// Promise 22.2: an index in a block that is no data block is none.
func TestIndexPlace(t *testing.T) {
	for _, l := range layouts() {
		blocks := slices.Repeat([]api.Block{told(1, first(l), l.Blocks-1)}, l.Blocks)
		for _, no := range append(wild(), rising(0, l.Blocks+2)...) {
			i := api.Inode{Kind: 2, Direct: [6]int{no}}
			x, has := fmap.Index(over(l, blocks), i)
			if !isData(l, no) {
				isNothing(t, over(l, blocks), i)
			} else if !has || x != (index.Index{Depth: 1, To: [32]int{first(l), l.Blocks - 1}}) {
				t.Fatalf("of %v: the index in the block %d: %v %v", l, no, x, has)
			}
			check(t, over(l, blocks), i)
		}
	}
}

// Promise 22.2: an index need not be right, but be read; each byte that makes it none counts.
func TestIndexForm(t *testing.T) {
	v := small()
	at := func(b api.Block) view.View {
		return view.View{L: v.L, Get: func(no int) api.Block {
			if no == 9 {
				return b
			}
			return v.Get(no)
		}}
	}
	i := api.Inode{Kind: 2, Direct: [6]int{9}}
	for depth := range 6 {
		l := slices.Repeat([]int{4, 5, 4, 4, 0, 65535, 2, 3}, 4)[:1<<depth]
		whole := told(depth, l...)
		if x, has := fmap.Index(at(whole), i); !has || x.Depth != depth || !slices.Equal(x.To[:len(l)], l) {
			t.Fatalf("Depth %d: %v %v", depth, x, has)
		}
		check(t, at(whole), i)
		for k := range whole {
			b := whole
			b[k]++
			check(t, at(b), i)
			if isNumber := k == 4 || k >= 32 && k < 32+2*len(l); !isNumber {
				isNothing(t, at(b), i)
			}
		}
	}
	isNothing(t, at(told(6, 7)), i)
	isNothing(t, at(told(255)), i)
	isNothing(t, at(told(1, 7, 8, 9)), i)
}

// Promise 22.2: buckets that are data blocks, each once, in the order in which they come first.
func TestBuckets(t *testing.T) {
	cases := []struct {
		depth int
		l     []int
		want  []int
	}{
		{0, []int{0}, nil}, {0, []int{3}, []int{3}}, {0, []int{2}, nil}, {0, []int{15}, []int{15}}, {0, []int{16}, nil}, {0, []int{1}, nil},
		{1, []int{8, 4}, []int{8, 4}}, {1, []int{4, 4}, []int{4}}, {1, []int{65535, 4}, []int{4}}, {1, []int{259, 260}, nil},
		{2, []int{15, 0, 3, 15}, []int{15, 3}}, {2, []int{5, 4, 3, 5}, []int{5, 4, 3}}, {2, []int{9, 2, 9, 16}, []int{9}},
		{5, slices.Repeat([]int{14, 2, 13, 16, 12, 14, 0, 1}, 4), []int{14, 13, 12}},
		{5, rising(0, 32), rising(3, 13)},
	}
	v := small()
	for _, c := range cases {
		over := view.View{L: v.L, Get: func(no int) api.Block { return told(c.depth, c.l...) }}
		i := api.Inode{Kind: 2, Direct: [6]int{9}}
		if got := fmap.Buckets(over, i); !slices.Equal(got, c.want) {
			t.Errorf("Buckets of %d %v: %v, want %v", c.depth, c.l, got, c.want)
		}
		if got := fmap.Owns(over, i); !slices.Equal(got, append([]int{9}, c.want...)) {
			t.Errorf("Owns of %d %v: %v, want 9 and %v", c.depth, c.l, got, c.want)
		}
	}
}

// Promise 22.3: by hand; what is told twice is owned twice, whatever the size is.
func TestOwnsByHand(t *testing.T) {
	v := small()
	cases := []struct {
		i    api.Inode
		want []int
	}{
		{api.Inode{Kind: 1}, nil},
		{api.Inode{Kind: 1, Size: 34304, Direct: [6]int{1, 2, 16, 17, -3, 65535}, Indirect: 2}, nil},
		{api.Inode{Kind: 1, Direct: [6]int{14, 0, 2, 3, 14, 15}}, []int{14, 3, 14, 15}},
		{api.Inode{Kind: 1, Direct: [6]int{14, 10, 0, 0, 0, 4}, Indirect: 10}, []int{14, 10, 4, 10, 11, 3, 15, 11}},
		{api.Inode{Kind: 1, Indirect: 10}, []int{10, 11, 3, 15, 11}},
		{api.Inode{Kind: 1, Indirect: 12}, []int{12}},
		{api.Inode{Kind: 1, Direct: [6]int{5}, Indirect: 16}, []int{5}},
		{api.Inode{Kind: 2, Direct: [6]int{9, 4, 5, 6, 7, 8}, Indirect: 10}, []int{9, 7, 8, 9}},
		{api.Inode{Kind: 2, Direct: [6]int{11, 4}}, []int{11}},
		{api.Inode{Kind: 2, Direct: [6]int{10, 9}, Indirect: 10}, nil},
		{api.Inode{Kind: 2}, nil},
		{api.Inode{Kind: 0, Direct: [6]int{9}, Indirect: 10}, nil},
		{api.Inode{Kind: 3, Direct: [6]int{9}, Indirect: 10}, nil},
	}
	for _, c := range cases {
		if got := fmap.Owns(v, c.i); !slices.Equal(got, c.want) {
			t.Errorf("Owns of %v: %v, want %v", c.i, got, c.want)
		}
	}
}

// Promise 22.3: at each size, also such as a file can not have.
func TestBeyond(t *testing.T) {
	l := api.Layout{Blocks: 512, Inodes: 8}
	blocks := slices.Repeat([]api.Block{numbers(rising(300, 128)...)}, 512)
	i := api.Inode{Kind: 1, Direct: [6]int{200, 201, 202, 203, 204, 205}, Indirect: 511}
	v := over(l, blocks)
	beyond := func(size, from int) {
		t.Helper()
		i.Size = size
		if got := fmap.Beyond(v, i); !slices.Equal(got, rising(from, 134-from)) {
			t.Fatalf("Beyond of the size %d: %v, want all from %d on", size, got, from)
		}
	}
	for k := range 134 {
		beyond(k*256, k)
		beyond(k*256+1, k+1)
		beyond(k*256+255, k+1)
	}
	for _, size := range []int{-1, -256, -34304, math.MinInt, math.MinInt + 255} {
		beyond(size, 0)
	}
	for _, size := range []int{34304, 34305, 34560, 65536, 1 << 32, math.MaxInt - 254, math.MaxInt} {
		beyond(size, 134)
	}
	i = api.Inode{Kind: 1, Size: 300, Direct: [6]int{0, 9, 0, 9, 2, 1}, Indirect: 10}
	if got := fmap.Beyond(small(), i); !slices.Equal(got, []int{3, 6, 9, 10, 13}) {
		t.Error("Beyond of a file with holes:", got)
	}
}

// devices tells blocks of any bytes, of numbers, and of indexes, right ones and spoilt ones, as a layout's device.
func devices(r *rand.Rand, l api.Layout) []api.Block {
	some := func() int {
		return []int{0, r.Intn(l.Blocks + 3), r.Intn(l.Blocks), first(l) + r.Intn(4) - 1}[r.Intn(4)]
	}
	blocks := make([]api.Block, l.Blocks)
	for no := range blocks {
		many := make([]int, 128)
		for k := range many {
			many[k] = some()
		}
		depth := r.Intn(6)
		switch r.Intn(6) {
		case 0:
			r.Read(blocks[no][:])
		case 1, 2:
			blocks[no] = numbers(many[:r.Intn(129)]...)
		case 3, 4:
			blocks[no] = told(depth, many[:1<<depth]...)
		case 5:
			blocks[no] = told(r.Intn(8), many[:r.Intn(60)]...)
		}
	}
	return blocks
}

// inodes tells any inode, whose numbers are mostly of blocks that there are.
func inodes(r *rand.Rand, l api.Layout) api.Inode {
	all := append(wild(), first(l)-1, first(l), l.Blocks-1, l.Blocks)
	some := func() int {
		if r.Intn(4) == 0 {
			return all[r.Intn(len(all))]
		}
		return r.Intn(max(l.Blocks%1024, 1) + 2)
	}
	i := api.Inode{Kind: 1 + r.Intn(2), Links: some(), Size: r.Intn(34500), Parent: some(), Indirect: some()}
	if r.Intn(8) == 0 {
		i.Kind, i.Size = kinds()[r.Intn(len(kinds()))], some()
	}
	for k := range i.Direct {
		i.Direct[k] = some()
	}
	return i
}

// Promises 22.1 to 22.4: any blocks and any inodes, by the words of the chapter.
func TestAny(t *testing.T) {
	r := rand.New(rand.NewSource(22))
	for range 60 {
		for _, l := range layouts() {
			v := over(l, devices(r, l))
			for range 8 {
				i := inodes(r, l)
				check(t, v, i)
				follows(t, v, i)
			}
		}
	}
}

// follows holds promise 22.4: all that is owned are data blocks, a file's blocks are, and at most one more.
func follows(t *testing.T, v view.View, i api.Inode) {
	t.Helper()
	l := fmap.Owns(v, i)
	for _, no := range slices.Concat(l, fmap.Blocks(v, i), fmap.Buckets(v, i)) {
		if !isData(v.L, no) {
			t.Fatalf("of %v: %v owns %d", v.L, i, no)
		}
	}
	n := len(l)
	for _, no := range append(fmap.Blocks(v, i), fmap.Buckets(v, i)...) {
		at := slices.Index(l, no)
		if at < 0 {
			t.Fatalf("of %v: %v does not own %d", v.L, i, no)
		}
		l = slices.Delete(l, at, at+1)
	}
	if len(l) > 1 {
		t.Fatalf("of %v: %v owns %d more, of %d", v.L, i, len(l), n)
	}
}

// Promises 22.1 to 22.3: of a layout that may not be no block is a data block.
func TestOthers(t *testing.T) {
	for _, l := range others() {
		for _, b := range []api.Block{{}, told(5, rising(0, 32)...), numbers(rising(0, 128)...)} {
			v := view.View{L: l, Get: func(no int) api.Block { return b }}
			for kind := range 4 {
				for _, no := range append(wild(), rising(0, 20)...) {
					isNothing(t, v, api.Inode{Kind: kind, Size: 9, Direct: [6]int{no, no, no, no, no, no}, Indirect: no})
				}
			}
		}
	}
}

// Promises 22.1 to 22.3: where blocks can't be read there are noughts; what the inode itself tells is there.
func TestWithoutFunction(t *testing.T) {
	l := api.Layout{Blocks: 16, Inodes: 8}
	for _, v := range []view.View{{L: l}, view.On(l, nil), view.On(l, func(int) (api.Block, api.Errno) { return told(0, 7), api.ErrDown })} {
		isNothing(t, v, api.Inode{Kind: 2, Direct: [6]int{9}})
		i := api.Inode{Kind: 1, Direct: [6]int{9, 0, 2, 15}, Indirect: 10}
		if !slices.Equal(fmap.Blocks(v, i), []int{9, 15}) || !slices.Equal(fmap.Owns(v, i), []int{9, 15, 10}) || !slices.Equal(fmap.Beyond(v, i), []int{0, 3}) || fmap.At(v, i, 6) != 0 {
			t.Error(fmap.Blocks(v, i), fmap.Owns(v, i))
		}
	}
	isNothing(t, view.View{}, api.Inode{Kind: 1, Direct: [6]int{9}, Indirect: 10})
	isNothing(t, view.View{}, api.Inode{Kind: 2, Direct: [6]int{9}})
}

// Promises 22.1 and 22.2: over a cache what is changed in memory is told, whether the device has it or not.
func TestOnCache(t *testing.T) {
	d, err := disk.From(make([]api.Block, 16))
	if err != api.OK {
		t.Fatal(err)
	}
	c := cache.New(d)
	v := view.On(api.Layout{Blocks: 16, Inodes: 8}, c.Get)
	f, dir := api.Inode{Kind: 1, Indirect: 10}, api.Inode{Kind: 2, Direct: [6]int{9}}
	if _, has := fmap.Index(v, dir); has || len(fmap.Blocks(v, f)) != 0 {
		t.Error("of noughts:", has, fmap.Blocks(v, f))
	}
	b := told(0, 7)
	c.Put(9, api.Patch{At: 0, Data: b[:]})
	c.Put(10, api.Patch{At: 255, Data: []byte{0}})
	c.Put(10, api.Patch{At: 254, Data: []byte{12}})
	if x, has := fmap.Index(v, dir); !has || x.To[0] != 7 || fmap.At(v, f, 133) != 12 || d.Writes() != 0 {
		t.Error(x, has, fmap.Blocks(v, f))
	}
}

// Rule R4: each answer is new memory.
func TestNewMemory(t *testing.T) {
	v := small()
	f, dir := api.Inode{Kind: 1, Direct: [6]int{9}, Indirect: 10}, api.Inode{Kind: 2, Direct: [6]int{9}}
	tells := []func() []int{
		func() []int { return fmap.Blocks(v, f) }, func() []int { return fmap.Owns(v, f) }, func() []int { return fmap.Beyond(v, f) },
		func() []int { return fmap.Owns(v, dir) }, func() []int { return fmap.Buckets(v, dir) },
	}
	for n, tell := range tells {
		l, same := tell(), tell()
		kept := slices.Clone(same)
		for k := range l {
			l[k] = -1
		}
		if !slices.Equal(same, kept) || !slices.Equal(tell(), kept) {
			t.Errorf("call %d: %v, then %v", n, kept, tell())
		}
	}
}

// The chapter's example.
func TestExample(t *testing.T) {
	v := view.On(api.Layout{Blocks: 16, Inodes: 8}, func(no int) (api.Block, api.Errno) { return numbers(11), api.OK })
	i := api.Inode{Kind: 1, Direct: [6]int{9}, Indirect: 10}
	if !slices.Equal(fmap.Blocks(v, i), []int{9, 11}) || !slices.Equal(fmap.Owns(v, i), []int{9, 10, 11}) {
		t.Error(fmap.Blocks(v, i), fmap.Owns(v, i))
	}
}

// P1: every call ends and none panics, at any arguments.
func TestAnyArguments(t *testing.T) {
	r := rand.New(rand.NewSource(1))
	all := slices.Concat(layouts(), others())
	for _, l := range all {
		for _, v := range []view.View{{L: l}, view.On(l, nil), view.On(l, func(no int) (api.Block, api.Errno) { return numbers(no), api.Errno(no % 3) })} {
			for range 300 {
				i := inodes(r, all[r.Intn(len(all))])
				for _, k := range wild() {
					fmap.At(v, i, k)
				}
				check(t, view.View{L: v.L, Get: v.Block}, i)
				follows(t, v, i)
			}
		}
	}
}
