package fread_test

import (
	"bytes"
	"encoding/binary"
	"math"
	"math/big"
	"math/rand"
	"slices"
	"testing"

	"escheat/api"
	"escheat/cache"
	"escheat/disk"
	"escheat/fread"
	"escheat/view"
)

// layouts may be, at the edges of what may.
func layouts() []api.Layout {
	return []api.Layout{{Blocks: 16, Inodes: 8}, {Blocks: 16, Inodes: 16, Merge: 1}, {Blocks: 16, Inodes: 104}, {Blocks: 19, Inodes: 128}, {Blocks: 100, Inodes: 24, Merge: 1 << 63},
		{Blocks: 257, Inodes: 8}, {Blocks: 512, Inodes: 8}, {Blocks: 512, Inodes: 128, Merge: math.MaxUint64}}
}

// others may not be: they have no data blocks.
func others() []api.Layout {
	return []api.Layout{{}, {Blocks: 15, Inodes: 8}, {Blocks: 513, Inodes: 8}, {Blocks: 100, Inodes: 0}, {Blocks: 100, Inodes: 9}, {Blocks: 16, Inodes: 112}, {Blocks: 512, Inodes: 136},
		{Blocks: 100, Inodes: -8}, {Blocks: -16, Inodes: 8}, {Blocks: math.MaxInt, Inodes: 8}, {Blocks: 100, Inodes: math.MinInt}}
}

// wild are sizes, places and counts; of some the lowest bytes would be those of one that a file can have.
func wild() []int {
	return []int{math.MinInt, math.MinInt + 1, math.MinInt + 34304, math.MinInt32, -65536, -34305, -34304, -34303, -257, -256, -255, -3, -2, -1, 0, 1, 2, 3, 4, 100, 254, 255, 256, 257, 258, 511, 512, 513,
		1535, 1536, 1537, 1791, 1792, 1793, 34047, 34048, 34049, 34302, 34303, 34304, 34305, 34559, 34560, 34561, 65535, 65536, math.MaxInt32, 1 << 32, 1<<32 + 5, 1 << 62, math.MaxInt - 34304, math.MaxInt - 34303, math.MaxInt - 255, math.MaxInt - 1, math.MaxInt}
}

// kinds are of no file; of some the lowest byte would be that of one.
func kinds() []int {
	return []int{0, 2, 3, 255, 256, 257, 258, -1, -2, -255, 65537, 1<<32 + 1, math.MinInt, math.MinInt + 1, math.MaxInt}
}

// isData tells whether no is a data block, by the words of the layers 14 and 15.
func isData(l api.Layout, no int) bool {
	if l.Blocks < 16 || l.Blocks > 512 || l.Inodes < 8 || l.Inodes > 128 || l.Inodes%8 != 0 || 2+l.Inodes/8 >= l.Blocks {
		return false
	}
	return no >= 2+l.Inodes/8 && no < l.Blocks
}

// over tells the view of these blocks, whose function panics where there is none.
func over(l api.Layout, blocks []api.Block) view.View {
	return view.View{L: l, Get: func(no int) api.Block { return blocks[no] }}
}

// numbers tells a block of such numbers by the library.
func numbers(l ...int) api.Block {
	var b api.Block
	for k, no := range l {
		binary.LittleEndian.PutUint16(b[2*k:], uint16(no))
	}
	return b
}

// block tells the number of the block k of a file, by the words of layer 22; 0, if it has none.
func block(v view.View, i api.Inode, k int) int {
	no := 0
	if k < 6 {
		no = i.Direct[k]
	} else if isData(v.L, i.Indirect) {
		b := v.Get(i.Indirect)
		no = int(binary.LittleEndian.Uint16(b[2*(k-6):]))
	}
	if isData(v.L, no) {
		return no
	}
	return 0
}

// file tells all bytes of what is a file or not, each by the words of the chapter.
func file(v view.View, i api.Inode) []byte {
	if i.Kind != 1 {
		return nil
	}
	var l []byte
	for p := range min(max(i.Size, 0), 34304) {
		b := api.Block{}
		if no := block(v, i, p/256); no != 0 {
			b = v.Get(no)
		}
		l = append(l, b[p%256])
	}
	return l
}

// part tells what is read of these bytes, one by one.
func part(all []byte, off, n int) []byte {
	var l []byte
	for p := range all {
		if off >= 0 && p >= off && p-off < n {
			l = append(l, all[p])
		}
	}
	return l
}

// holes tells how many of 256 bytes begun there are of the size, for which there is no block.
func holes(v view.View, i api.Inode) int {
	n := 0
	for p := 0; i.Kind == 1 && p < min(i.Size, 34304); p += 256 {
		if block(v, i, p/256) == 0 {
			n++
		}
	}
	return n
}

// check holds all calls that read a file against the words of the chapter.
func check(t *testing.T, v view.View, i api.Inode, offs, ns []int) {
	t.Helper()
	all := file(v, i)
	if got := fread.Size(i); got != len(all) {
		t.Fatalf("of %v: %v: Size: %d, want %d", v.L, i, got, len(all))
	}
	if got := fread.All(v, i); !bytes.Equal(got, all) {
		t.Fatalf("of %v: %v: All: %v, want %v", v.L, i, got, all)
	}
	if got, want := fread.Holes(v, i), holes(v, i); got != want {
		t.Fatalf("of %v: %v: Holes: %d, want %d", v.L, i, got, want)
	}
	for _, off := range offs {
		for _, n := range ns {
			if got, want := fread.Read(v, i, off, n), part(all, off, n); !bytes.Equal(got, want) {
				t.Fatalf("of %v: %v: Read %d of %d: %v, want %v", v.L, i, n, off, got, want)
			}
		}
	}
}

// isNothing tells that nothing is read, whatever is asked.
func isNothing(t *testing.T, v view.View, i api.Inode) {
	t.Helper()
	if fread.Size(i) != 0 || len(fread.All(v, i)) != 0 || fread.Holes(v, i) != 0 {
		t.Fatalf("of %v: %v: %d %d %d", v.L, i, fread.Size(i), len(fread.All(v, i)), fread.Holes(v, i))
	}
	for _, off := range wild() {
		for _, n := range wild() {
			if got := fread.Read(v, i, off, n); len(got) != 0 {
				t.Fatalf("of %v: %v: Read %d of %d: %v", v.L, i, n, off, got)
			}
		}
	}
}

// full is a device, and a file with all 134 blocks, of which no two have the same bytes.
func full() (view.View, api.Inode) {
	blocks := make([]api.Block, 512)
	r := rand.New(rand.NewSource(23))
	for no := range blocks {
		r.Read(blocks[no][:])
	}
	var l []int
	for k := range 128 {
		l = append(l, 500-3*k)
	}
	blocks[9] = numbers(l...)
	return over(api.Layout{Blocks: 512, Inodes: 8}, blocks), api.Inode{Kind: 1, Size: 34304, Direct: [6]int{3, 511, 4, 10, 11, 5}, Indirect: 9}
}

// Promise 23.1: sizes that count, as 0 at least and as 34304 at most, of files alone.
func TestSize(t *testing.T) {
	for size := -70000; size < 140000; size++ {
		want := size
		if size < 0 {
			want = 0
		}
		if size > 34304 {
			want = 34304
		}
		if got := fread.Size(api.Inode{Kind: 1, Size: size}); got != want {
			t.Fatalf("Size of %d: %d, want %d", size, got, want)
		}
	}
	for _, c := range [][2]int{{math.MinInt, 0}, {math.MinInt + 5, 0}, {-1 << 32, 0}, {1 << 32, 34304}, {1<<32 + 5, 34304}, {math.MaxInt, 34304}} {
		if got := fread.Size(api.Inode{Kind: 1, Size: c[0]}); got != c[1] {
			t.Errorf("Size of %d: %d, want %d", c[0], got, c[1])
		}
	}
	for _, kind := range kinds() {
		for _, size := range wild() {
			if got := fread.Size(api.Inode{Kind: kind, Size: size}); got != 0 {
				t.Errorf("Size of %d of the kind %d: %d", size, kind, got)
			}
		}
	}
}

// byHand is a device of which the blocks from 3 to 15 are data blocks, and a file of 7 blocks with holes.
func byHand() (view.View, api.Inode) {
	blocks := make([]api.Block, 16)
	for no := range blocks {
		for at := range blocks[no] {
			blocks[no][at] = byte(no)
		}
	}
	blocks[4][0], blocks[4][255] = 100, 101
	blocks[10] = numbers(15, 14, 2)
	return over(api.Layout{Blocks: 16, Inodes: 8}, blocks), api.Inode{Kind: 1, Size: 2053, Direct: [6]int{4, 0, 5, 2, 16, -1}, Indirect: 10}
}

// Promise 23.1: by hand; a block is read from its place on, a hole is noughts, and nothing behind the end is read.
func TestReadByHand(t *testing.T) {
	v, i := byHand()
	cases := []struct {
		off, n int
		want   []byte
	}{
		{0, 2, []byte{100, 4}}, {254, 1, []byte{4}}, {254, 2, []byte{4, 101}}, {254, 4, []byte{4, 101, 0, 0}}, {255, 1, []byte{101}}, {256, 1, []byte{0}},
		{511, 2, []byte{0, 5}}, {512, 1, []byte{5}}, {767, 2, []byte{5, 0}}, {1023, 3, []byte{0, 0, 0}}, {1279, 2, []byte{0, 0}}, {1534, 4, []byte{0, 0, 15, 15}}, {1791, 2, []byte{15, 14}},
		{2047, 1, []byte{14}}, {2047, 2, []byte{14, 0}}, {2047, 99, []byte{14, 0, 0, 0, 0, 0}}, {2052, 1, []byte{0}}, {2052, 2, []byte{0}}, {2052, math.MaxInt, []byte{0}},
		{2053, 1, nil}, {2054, 1, nil}, {2304, 1, nil}, {34303, 1, nil}, {34304, 1, nil}, {math.MaxInt, 1, nil}, {math.MaxInt, math.MaxInt, nil},
		{0, 0, nil}, {0, -1, nil}, {0, math.MinInt, nil}, {2053, math.MinInt, nil}, {math.MaxInt, math.MinInt, nil}, {-1, 1, nil}, {-1, 2, nil}, {-1, math.MaxInt, nil}, {math.MinInt, math.MaxInt, nil}, {-256, 512, nil},
	}
	for _, c := range cases {
		if got := fread.Read(v, i, c.off, c.n); !bytes.Equal(got, c.want) {
			t.Errorf("Read %d of %d: %v, want %v", c.n, c.off, got, c.want)
		}
	}
	if got := fread.All(v, i); len(got) != 2053 || !bytes.Equal(got, file(v, i)) {
		t.Error("All:", got)
	}
}

// Promise 23.1: a file with all that a file can have, from each place on and up to each.
func TestReadOfAll(t *testing.T) {
	v, i := full()
	all := file(v, i)
	if len(all) != 34304 || !bytes.Equal(fread.All(v, i), all) {
		t.Fatal("All")
	}
	for p, want := range all {
		if got := fread.Read(v, i, p, 1); !bytes.Equal(got, []byte{want}) {
			t.Fatalf("Read 1 of %d: %v, want %d", p, got, want)
		}
	}
	for p := 0; p <= 34304; p += 61 {
		if !bytes.Equal(fread.Read(v, i, p, math.MaxInt), all[p:]) || !bytes.Equal(fread.Read(v, i, 0, p), all[:p]) || !bytes.Equal(fread.Read(v, i, p, 34304-p), all[p:]) {
			t.Fatalf("Read from %d on, or up to it", p)
		}
	}
	check(t, v, i, wild(), wild())
	i.Size = math.MaxInt
	check(t, v, i, wild(), []int{1, 257, 34304, 34305, math.MaxInt})
}

// Promise 23.1: of each size the last byte is the last one that is read, though the block has more.
func TestReadAtEnd(t *testing.T) {
	v, i := full()
	all := file(v, i)
	for _, size := range []int{1, 2, 255, 256, 257, 512, 1535, 1536, 1537, 1792, 1793, 34048, 34049, 34303, 34304} {
		i.Size = size
		if got := fread.All(v, i); !bytes.Equal(got, all[:size]) {
			t.Errorf("of %d bytes: All has %d", size, len(got))
		}
		if got := fread.Read(v, i, size-1, 300); !bytes.Equal(got, all[size-1:size]) {
			t.Errorf("of %d bytes: Read of the last one: %v", size, got)
		}
		if got := fread.Read(v, i, size, 300); len(got) != 0 {
			t.Errorf("of %d bytes: Read past the last one: %v", size, got)
		}
	}
	for _, size := range []int{0, -1, -256, -34304, math.MinInt} {
		i.Size = size
		isNothing(t, v, i)
	}
}

// Promises 23.1 and 23.2: what is no file has no bytes, and lacks no blocks.
func TestKinds(t *testing.T) {
	v, i := full()
	for _, kind := range kinds() {
		i.Kind = kind
		isNothing(t, v, i)
		isNothing(t, v, api.Inode{Kind: kind, Size: 300})
	}
}

// Promise 23.2: by hand, at each size; a block past the end is no hole, and what is no data block is none that the file has.
func TestHoles(t *testing.T) {
	v, i := byHand()
	for _, c := range [][2]int{{math.MinInt, 0}, {-1, 0}, {0, 0}, {1, 0}, {256, 0}, {257, 1}, {512, 1}, {513, 1}, {768, 1}, {769, 2}, {1024, 2}, {1025, 3}, {1280, 3}, {1281, 4}, {1536, 4}, {1537, 4}, {2048, 4},
		{2049, 5}, {2053, 5}, {2304, 5}, {2305, 6}, {34304, 130}, {34305, 130}, {math.MaxInt, 130}} {
		i.Size = c[0]
		if got := fread.Holes(v, i); got != c[1] {
			t.Errorf("Holes of %d bytes: %d, want %d", c[0], got, c[1])
		}
	}
	w, all := full()
	for _, size := range wild() {
		all.Size = size
		if got := fread.Holes(w, all); got != 0 {
			t.Errorf("Holes of %d bytes, all there: %d", size, got)
		}
		want := (min(max(size, 0), 34304) + 255) / 256
		if got := fread.Holes(w, api.Inode{Kind: 1, Size: size}); got != want {
			t.Errorf("Holes of %d bytes, none there: %d, want %d", size, got, want)
		}
	}
	all.Indirect, all.Size = 2, 1800
	if got := fread.Holes(w, all); got != 2 {
		t.Error("Holes without Indirect:", got)
	}
}

// Promise 23.2: by hand.
func TestSpansByHand(t *testing.T) {
	cases := []struct {
		off, n int
		want   [][3]int
	}{
		{0, 1, [][3]int{{0, 0, 1}}}, {0, 255, [][3]int{{0, 0, 255}}}, {0, 256, [][3]int{{0, 0, 256}}}, {0, 257, [][3]int{{0, 0, 256}, {1, 0, 1}}}, {1, 256, [][3]int{{0, 1, 255}, {1, 0, 1}}},
		{255, 1, [][3]int{{0, 255, 1}}}, {256, 1, [][3]int{{1, 0, 1}}}, {256, 256, [][3]int{{1, 0, 256}}}, {300, 2, [][3]int{{1, 44, 2}}}, {511, 258, [][3]int{{1, 255, 1}, {2, 0, 256}, {3, 0, 1}}},
		{1535, 2, [][3]int{{5, 255, 1}, {6, 0, 1}}}, {34303, 1, [][3]int{{133, 255, 1}}}, {34303, 2, [][3]int{{133, 255, 1}}}, {34047, math.MaxInt, [][3]int{{132, 255, 1}, {133, 0, 256}}},
		{34304, 1, nil}, {34304, math.MaxInt, nil}, {34305, math.MaxInt, nil}, {math.MaxInt, 1, nil}, {math.MaxInt, math.MaxInt, nil}, {math.MaxInt - 3, 5, nil}, {1 << 32, 5, nil}, {1 << 62, 1 << 62, nil},
		{0, 0, nil}, {7, 0, nil}, {7, -1, nil}, {300, -300, nil}, {7, math.MinInt, nil}, {math.MaxInt, math.MinInt, nil}, {-7, 0, nil}, {-7, -7, nil}, {math.MinInt, math.MinInt, nil},
		{-1, 1, [][3]int{{0, 0, 1}}}, {-7, 3, [][3]int{{0, 0, 3}}}, {-300, 257, [][3]int{{0, 0, 256}, {1, 0, 1}}}, {math.MinInt, 2, [][3]int{{0, 0, 2}}},
	}
	for _, c := range cases {
		if got := fread.Spans(c.off, c.n); !slices.Equal(got, c.want) {
			t.Errorf("Spans of %d from %d on: %v, want %v", c.n, c.off, got, c.want)
		}
	}
	all := fread.Spans(math.MinInt, math.MaxInt)
	if len(all) != 134 || all[0] != [3]int{0, 0, 256} || all[133] != [3]int{133, 0, 256} {
		t.Error("Spans of all:", all)
	}
}

// ends tells the first byte that counts and the first one behind, worked out by numbers of any size.
func ends(off, n int) (int, int) {
	from := big.NewInt(int64(max(off, 0)))
	to := new(big.Int).Add(from, big.NewInt(int64(max(n, 0))))
	if to.Cmp(big.NewInt(34304)) > 0 {
		to = big.NewInt(34304)
	}
	if from.Cmp(to) >= 0 {
		return 0, 0
	}
	return int(from.Int64()), int(to.Int64())
}

// have holds promise 23.4: just the bytes that there are, each once and in order, one piece a block.
func have(t *testing.T, off, n int) {
	t.Helper()
	next, end := ends(off, n)
	l := fread.Spans(off, n)
	for at, s := range l {
		if s[0] < 0 || s[1] < 0 || s[2] < 1 || s[1]+s[2] > 256 || s[0]*256+s[1] != next || at > 0 && s[0] == l[at-1][0] {
			t.Fatalf("Spans of %d from %d on: %v at %d, want from %d on", n, off, s, at, next)
		}
		next += s[2]
	}
	if next != end {
		t.Fatalf("Spans of %d from %d on: up to %d, want %d", n, off, next, end)
	}
}

// Promises 23.2 and 23.4: at all edges, and at any places.
func TestSpans(t *testing.T) {
	for _, off := range wild() {
		for _, n := range wild() {
			have(t, off, n)
		}
	}
	for off := range 34310 {
		have(t, off, 1)
		have(t, off, 256)
		have(t, off, 34304-off)
		have(t, 0, off)
		have(t, 34304-off, off)
	}
	r := rand.New(rand.NewSource(2))
	for range 20000 {
		have(t, r.Intn(36000)-1000, r.Intn(36000)-1000)
		have(t, int(r.Uint64()), int(r.Uint64()))
	}
}

// Promise 23.3: what is read in two parts is what is read at once, whether all is there or not.
func TestTwoParts(t *testing.T) {
	r := rand.New(rand.NewSource(3))
	v, i := full()
	w, few := byHand()
	for range 4000 {
		i.Size, few.Size = r.Intn(35000)-300, r.Intn(2600)-100
		for _, c := range []struct {
			v view.View
			i api.Inode
		}{{v, i}, {w, few}} {
			off, n := r.Intn(max(c.i.Size, 1)+300), r.Intn(3000)
			first := r.Intn(n + 1)
			parts := slices.Concat(fread.Read(c.v, c.i, off, first), fread.Read(c.v, c.i, off+first, n-first))
			if once := fread.Read(c.v, c.i, off, n); !bytes.Equal(parts, once) {
				t.Fatalf("of %v: %d, then %d from %d on: %v, at once %v", c.i, first, n-first, off, parts, once)
			}
		}
	}
}

// Promises 23.2 and 23.4: the pieces of what is read are what is read, where the file has the blocks.
func TestReadBySpans(t *testing.T) {
	r := rand.New(rand.NewSource(4))
	v, i := full()
	for range 2000 {
		off, n := r.Intn(35000)-300, r.Intn(3000)
		var l []byte
		for _, s := range fread.Spans(off, n) {
			b := v.Get(block(v, i, s[0]))
			l = append(l, b[s[1]:s[1]+s[2]]...)
		}
		if got := fread.Read(v, i, max(off, 0), n); !bytes.Equal(got, l) {
			t.Fatalf("Read %d of %d: %v, by Spans %v", n, off, got, l)
		}
	}
}

// inodes tells any inode, mostly a file whose numbers are mostly of blocks that there are.
func inodes(r *rand.Rand, l api.Layout) api.Inode {
	some := func() int {
		if r.Intn(5) == 0 {
			return wild()[r.Intn(len(wild()))]
		}
		return r.Intn(max(l.Blocks%1024, 1) + 2)
	}
	i := api.Inode{Kind: 1, Links: some(), Size: r.Intn(3000), Parent: some(), Indirect: some()}
	switch r.Intn(8) {
	case 0:
		i.Kind = kinds()[r.Intn(len(kinds()))]
	case 1:
		i.Size = some()
	}
	for k := range i.Direct {
		i.Direct[k] = some()
	}
	return i
}

// Promises 23.1 and 23.2: any blocks and any inodes, by the words of the chapter.
func TestAny(t *testing.T) {
	r := rand.New(rand.NewSource(5))
	for range 12 {
		for _, l := range layouts() {
			blocks := make([]api.Block, l.Blocks)
			for no := range blocks {
				r.Read(blocks[no][:])
				if r.Intn(2) == 0 {
					blocks[no] = numbers(r.Perm(l.Blocks + 1)[:r.Intn(min(l.Blocks, 128))]...)
				}
			}
			for range 6 {
				some := []int{r.Intn(3000), r.Intn(3000), r.Intn(34304), wild()[r.Intn(len(wild()))]}
				check(t, over(l, blocks), inodes(r, l), some, append(some, 1))
			}
		}
	}
}

// Promises 23.1 and 23.2: of a layout that may not be, and where no block can be read, all of a file is noughts.
func TestNoughts(t *testing.T) {
	var ones api.Block
	for at := range ones {
		ones[at] = 1
	}
	i := api.Inode{Kind: 1, Size: 1800, Direct: [6]int{9, 2, 3, 15, 16, 4}, Indirect: 10}
	for _, l := range others() {
		v := view.View{L: l, Get: func(int) api.Block { return ones }}
		if got := fread.All(v, i); !bytes.Equal(got, make([]byte, 1800)) || fread.Holes(v, i) != 8 {
			t.Errorf("of %v: %v %d", l, got, fread.Holes(v, i))
		}
	}
	l := api.Layout{Blocks: 16, Inodes: 8}
	for _, v := range []view.View{{L: l}, view.On(l, nil), view.On(l, func(int) (api.Block, api.Errno) { return ones, api.ErrDown })} {
		if got := fread.Read(v, i, 1, 1700); !bytes.Equal(got, make([]byte, 1700)) || fread.Holes(v, i) != 4 {
			t.Errorf("%v %d", got, fread.Holes(v, i))
		}
	}
	if got := fread.All(view.View{}, i); !bytes.Equal(got, make([]byte, 1800)) {
		t.Error("of the zero view:", got)
	}
}

// Promise 23.1: over a cache what is changed in memory is read, whether the device has it or not.
func TestOnCache(t *testing.T) {
	d, err := disk.From(make([]api.Block, 16))
	if err != api.OK {
		t.Fatal(err)
	}
	c := cache.New(d)
	v := view.On(api.Layout{Blocks: 16, Inodes: 8}, c.Get)
	i := api.Inode{Kind: 1, Size: 1540, Direct: [6]int{9}, Indirect: 10}
	if got := fread.All(v, i); !bytes.Equal(got, make([]byte, 1540)) || fread.Holes(v, i) != 6 {
		t.Error("of noughts:", got, fread.Holes(v, i))
	}
	c.Put(9, api.Patch{At: 254, Data: []byte{7, 8}})
	c.Put(11, api.Patch{At: 2, Data: []byte{5, 6}})
	c.Put(10, api.Patch{Data: []byte{11, 0}})
	if got := fread.Read(v, i, 253, 4); !bytes.Equal(got, []byte{0, 7, 8, 0}) {
		t.Error(got)
	}
	if got := fread.Read(v, i, 1536, 9); !bytes.Equal(got, []byte{0, 0, 5, 6}) || fread.Holes(v, i) != 5 || d.Writes() != 0 {
		t.Error(got, fread.Holes(v, i), d.Writes())
	}
}

// Rule R4: each answer is new memory, and no block is changed.
func TestNewMemory(t *testing.T) {
	v, i := full()
	for _, tell := range []func() []byte{func() []byte { return fread.All(v, i) }, func() []byte { return fread.Read(v, i, 3, 200) }, func() []byte { return fread.Read(v, api.Inode{Kind: 1, Size: 900}, 3, 600) }} {
		l, same := tell(), tell()
		kept := slices.Clone(same)
		for k := range l {
			l[k]++
		}
		if !bytes.Equal(same, kept) || !bytes.Equal(tell(), kept) {
			t.Error("what was told changes what is told")
		}
	}
	l, same := fread.Spans(255, 3), fread.Spans(255, 3)
	l[0] = [3]int{9, 9, 9}
	if want := [][3]int{{0, 255, 1}, {1, 0, 2}}; !slices.Equal(same, want) || !slices.Equal(fread.Spans(255, 3), want) {
		t.Error(same, fread.Spans(255, 3))
	}
}

// The chapter's examples.
func TestExamples(t *testing.T) {
	i := api.Inode{Kind: 1, Size: 3}
	if got := fread.All(view.View{L: api.Layout{Blocks: 16, Inodes: 8}}, i); !bytes.Equal(got, []byte{0, 0, 0}) {
		t.Error(got)
	}
	if got := fread.Spans(255, 3); !slices.Equal(got, [][3]int{{0, 255, 1}, {1, 0, 2}}) {
		t.Error(got)
	}
}

// P1: every call ends and none panics, at any arguments.
func TestAnyArguments(t *testing.T) {
	r := rand.New(rand.NewSource(1))
	all := slices.Concat(layouts(), others())
	for _, l := range all {
		for _, v := range []view.View{{L: l}, view.On(l, nil), view.On(l, func(no int) (api.Block, api.Errno) { return numbers(no), api.Errno(no % 3) })} {
			for _, size := range wild() {
				i := inodes(r, all[r.Intn(len(all))])
				i.Size = size
				some := []int{wild()[r.Intn(len(wild()))], wild()[r.Intn(len(wild()))], r.Intn(40000)}
				check(t, view.View{L: v.L, Get: v.Block}, i, some, some)
				for _, off := range wild() {
					fread.Read(v, i, off, some[0])
				}
			}
		}
	}
}
