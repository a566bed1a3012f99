package dread_test

import (
	"encoding/binary"
	"hash/fnv"
	"math"
	"math/rand"
	"slices"
	"strconv"
	"strings"
	"testing"

	"escheat/api"
	"escheat/cache"
	"escheat/disk"
	"escheat/dread"
	"escheat/view"
)

// layouts may be, at the edges of what may.
func layouts() []api.Layout {
	return []api.Layout{{Blocks: 16, Inodes: 8}, {Blocks: 16, Inodes: 16, Merge: 1}, {Blocks: 16, Inodes: 104}, {Blocks: 19, Inodes: 128}, {Blocks: 100, Inodes: 24, Merge: 1 << 63},
		{Blocks: 257, Inodes: 8}, {Blocks: 512, Inodes: 8}, {Blocks: 512, Inodes: 128, Merge: math.MaxUint64}}
}

// others may not be: they have no data blocks.
func others() []api.Layout {
	return []api.Layout{{}, {Blocks: 15, Inodes: 8}, {Blocks: 513, Inodes: 8}, {Blocks: 100, Inodes: 0}, {Blocks: 100, Inodes: 9}, {Blocks: 16, Inodes: 112}, {Blocks: 512, Inodes: 136},
		{Blocks: 100, Inodes: -8}, {Blocks: -16, Inodes: 8}, {Blocks: math.MaxInt, Inodes: 8}, {Blocks: 100, Inodes: math.MinInt}}
}

// wild are numbers of blocks; of some of them the lowest bytes would be those of one that may be.
func wild() []int {
	return []int{math.MinInt, math.MinInt + 9, math.MinInt32, -65536, -65527, -512, -9, -1, 0, 1, 2, 3, 4, 5, 9, 14, 15, 16, 17, 99, 100, 255, 256, 257, 265, 511, 512, 513, 65535, 65536, 65545, math.MaxInt32, 1 << 32, 1<<32 + 9, 1 << 62, math.MaxInt - 1, math.MaxInt}
}

// kinds are of no directory; of some the lowest byte would be that of one.
func kinds() []int {
	return []int{0, 1, 3, 255, 256, 258, -1, -2, -254, 65538, 1<<32 + 2, math.MinInt, math.MinInt + 2, math.MaxInt}
}

// noNames are texts that no directory can have.
func noNames() []string {
	return []string{"", ".", "..", "/", "a/b", "/a", "a/", "\x00", "a\x00", "\x00a", strings.Repeat("n", 25), strings.Repeat("n", 256), strings.Repeat("n", 280)}
}

// first tells the first data block, by the words of layer 15.
func first(l api.Layout) int {
	return 2 + l.Inodes/8
}

// isData tells whether no is a data block, by the words of the layers 14 and 15.
func isData(l api.Layout, no int) bool {
	if l.Blocks < 16 || l.Blocks > 512 || l.Inodes < 8 || l.Inodes > 128 || l.Inodes%8 != 0 || first(l) >= l.Blocks {
		return false
	}
	return no >= first(l) && no < l.Blocks
}

// over tells the view of these blocks, whose function panics where there is none.
func over(l api.Layout, blocks []api.Block) view.View {
	return view.View{L: l, Get: func(no int) api.Block { return blocks[no] }}
}

// told tells an index's bytes by the library, whether it may be or not.
func told(depth int, l ...int) api.Block {
	b := api.Block{0: 'i', 1: 'd', 2: 'x', 3: '!', 4: byte(depth)}
	for place, no := range l {
		binary.LittleEndian.PutUint16(b[32+2*place:], uint16(no))
	}
	return b
}

// slot lays a slot's bytes into a block by the library, whether they may be or not.
func slot(b api.Block, k int, name string, ino int) api.Block {
	at := 32 + 32*k
	binary.LittleEndian.PutUint16(b[at:], uint16(ino))
	b[at+2] = byte(len(name))
	copy(b[at+3:at+32], name)
	return b
}

// names tells a bucket that has these entries in its first slots.
func names(l ...api.Entry) api.Block {
	b := api.Block{0: 'b', 1: 'k', 2: 't', 3: '!'}
	for k, e := range l {
		b = slot(b, k, e.Name, e.Ino)
	}
	return b
}

// low tells the low bits of a name's hash by the library.
func low(name string, bits int) int {
	h := fnv.New32a()
	h.Write([]byte(name))
	return int(h.Sum32() & (1<<bits - 1))
}

// like tells the name number n, of those that begin so, whose hash has these low bits.
func like(begin string, p, bits, n int) string {
	for k := 0; ; k++ {
		name := begin + strconv.Itoa(k)
		if low(name, bits) != p {
			continue
		}
		if n == 0 {
			return name
		}
		n--
	}
}

// directory tells a directory's index and its buckets, by the words of layer 22.
func directory(v view.View, dir api.Inode) (int, []int, []int, bool) {
	if dir.Kind != 2 || !isData(v.L, dir.Direct[0]) {
		return 0, nil, nil, false
	}
	b := v.Get(dir.Direct[0])
	depth := int(b[4])
	if string(b[:4]) != "idx!" || depth > 5 {
		return 0, nil, nil, false
	}
	var to, buckets []int
	for place := range 1 << depth {
		no := int(binary.LittleEndian.Uint16(b[32+2*place:]))
		to = append(to, no)
		if isData(v.L, no) && !slices.Contains(buckets, no) {
			buckets = append(buckets, no)
		}
	}
	return depth, to, buckets, told(depth, to...) == b
}

// found is an entry, and where it stands.
type found struct {
	name  string
	place dread.Place
}

// entries tells the entries of a block, by the words of layer 18.
func entries(b api.Block, no int) []found {
	var l []found
	for k := range 7 {
		at := 32 + 32*k
		ino, n := int(binary.LittleEndian.Uint16(b[at:])), int(b[at+2])
		if ino < 1 || ino > 128 || n < 1 || n > 24 {
			continue
		}
		name := string(b[at+3 : at+3+n])
		if strings.ContainsAny(name, "\x00/") || name == "." || name == ".." || strings.Trim(string(b[at+3+n:at+32]), "\x00") != "" {
			continue
		}
		l = append(l, found{name, dread.Place{Bucket: no, Slot: k, Ino: ino}})
	}
	return l
}

// lookup tells where the directory has the name, by the words of the chapter.
func lookup(v view.View, dir api.Inode, name string) (dread.Place, bool) {
	depth, to, _, has := directory(v, dir)
	if !has || !isData(v.L, to[low(name, depth)]) {
		return dread.Place{}, false
	}
	no := to[low(name, depth)]
	for _, f := range entries(v.Get(no), no) {
		if f.name == name {
			return f.place, true
		}
	}
	return dread.Place{}, false
}

// check holds all calls against the words of the chapter, of all names that stand in the buckets and of these.
func check(t *testing.T, v view.View, dir api.Inode, more ...string) {
	t.Helper()
	depth, to, buckets, has := directory(v, dir)
	var list []api.Entry
	var stray []dread.Place
	var load []int
	for n := 0; has && n < len(buckets); n++ {
		l := entries(v.Get(buckets[n]), buckets[n])
		load = append(load, len(l))
		for _, f := range l {
			more = append(more, f.name)
			if p, _ := lookup(v, dir, f.name); p == f.place {
				list = append(list, api.Entry{Name: f.name, Ino: p.Ino})
			} else {
				stray = append(stray, f.place)
			}
		}
	}
	slices.SortFunc(list, func(a, b api.Entry) int { return strings.Compare(a.Name, b.Name) })
	for _, name := range more {
		want, is := lookup(v, dir, name)
		if got, has := dread.Lookup(v, dir, name); got != want || has != is {
			t.Fatalf("of %v: %v: Lookup %q: %v %v, want %v %v", v.L, dir, name, got, has, want, is)
		}
		place, no := 0, 0
		if has {
			place, no = low(name, depth), to[low(name, depth)]
		}
		if p, n, is := dread.Route(v, dir, name); p != place || n != no || is != has {
			t.Fatalf("of %v: %v: Route %q: %d %d %v, want %d %d %v", v.L, dir, name, p, n, is, place, no, has)
		}
	}
	if got := dread.List(v, dir); !slices.Equal(got, list) {
		t.Fatalf("of %v: %v: List: %v, want %v", v.L, dir, got, list)
	}
	if got := dread.Empty(v, dir); got != (len(list) == 0) {
		t.Fatalf("of %v: %v: Empty: %v, of %v", v.L, dir, got, list)
	}
	if got := dread.Stray(v, dir); !slices.Equal(got, stray) {
		t.Fatalf("of %v: %v: Stray: %v, want %v", v.L, dir, got, stray)
	}
	if got := dread.Load(v, dir); !slices.Equal(got, load) {
		t.Fatalf("of %v: %v: Load: %v, want %v", v.L, dir, got, load)
	}
}

// isNothing tells that the directory has no index, whatever is asked.
func isNothing(t *testing.T, v view.View, dir api.Inode) {
	t.Helper()
	for _, name := range append(noNames(), "a", "b", "c", like("n", 0, 5, 0)) {
		if place, no, has := dread.Route(v, dir, name); place != 0 || no != 0 || has {
			t.Fatalf("of %v: %v: Route %q: %d %d %v", v.L, dir, name, place, no, has)
		}
		if p, has := dread.Lookup(v, dir, name); p != (dread.Place{}) || has {
			t.Fatalf("of %v: %v: Lookup %q: %v %v", v.L, dir, name, p, has)
		}
	}
	if len(dread.List(v, dir)) != 0 || len(dread.Stray(v, dir)) != 0 || len(dread.Load(v, dir)) != 0 || !dread.Empty(v, dir) {
		t.Fatalf("of %v: %v: %v %v %v", v.L, dir, dread.List(v, dir), dread.Stray(v, dir), dread.Load(v, dir))
	}
}

// even and odd are names whose hashes have those lowest bits.
func even(n int) string { return like("n", 0, 1, n) }
func odd(n int) string  { return like("n", 1, 1, n) }

// byHand is a directory of the blocks 9 (its index), 5 and 7, of names that are where they should be, and others.
func byHand() (view.View, api.Inode) {
	blocks := make([]api.Block, 16)
	blocks[9] = told(1, 7, 5)
	blocks[7] = names(api.Entry{Name: even(1), Ino: 3}, api.Entry{Name: odd(0), Ino: 4}, api.Entry{Name: even(0), Ino: 5}, api.Entry{Name: even(1), Ino: 6}, api.Entry{Name: even(2), Ino: 129})
	blocks[5] = slot(names(api.Entry{}, api.Entry{Name: even(0), Ino: 7}), 6, odd(1), 128)
	return over(api.Layout{Blocks: 16, Inodes: 8}, blocks), api.Inode{Kind: 2, Links: 2, Parent: 1, Direct: [6]int{9}}
}

// Promises 24.1 and 24.2: by hand.
func TestByHand(t *testing.T) {
	v, dir := byHand()
	where := map[string]dread.Place{even(0): {Bucket: 7, Slot: 2, Ino: 5}, even(1): {Bucket: 7, Ino: 3}, odd(1): {Bucket: 5, Slot: 6, Ino: 128}}
	for n := range 4 {
		for p, name := range []string{even(n), odd(n)} {
			want, is := where[name]
			if got, has := dread.Lookup(v, dir, name); got != want || has != is {
				t.Errorf("Lookup %q: %v %v, want %v %v", name, got, has, want, is)
			}
			if place, no, has := dread.Route(v, dir, name); place != p || no != 7-2*p || !has {
				t.Errorf("Route %q: %d %d %v", name, place, no, has)
			}
		}
	}
	list := []api.Entry{{Name: even(0), Ino: 5}, {Name: even(1), Ino: 3}, {Name: odd(1), Ino: 128}}
	slices.SortFunc(list, func(a, b api.Entry) int { return strings.Compare(a.Name, b.Name) })
	if got := dread.List(v, dir); !slices.Equal(got, list) {
		t.Errorf("List: %v, want %v", got, list)
	}
	if got := dread.Stray(v, dir); !slices.Equal(got, []dread.Place{{Bucket: 7, Slot: 1, Ino: 4}, {Bucket: 7, Slot: 3, Ino: 6}, {Bucket: 5, Slot: 1, Ino: 7}}) {
		t.Error("Stray:", got)
	}
	if got := dread.Load(v, dir); !slices.Equal(got, []int{4, 2}) || dread.Empty(v, dir) {
		t.Error("Load:", got)
	}
	check(t, v, dir, noNames()...)
}

// Promise 24.1: at each depth a name's hash leads to its place, and to the block that is told there, whatever it is.
func TestRoute(t *testing.T) {
	for depth := range 6 {
		n := 1 << depth
		tells := make([]int, n)
		for place := range tells {
			tells[place] = []int{4, 0, 65535, 2, 15, 16, 1, 4}[place%8]
		}
		blocks := make([]api.Block, 16)
		blocks[3] = told(depth, tells...)
		v, dir := over(api.Layout{Blocks: 16, Inodes: 8}, blocks), api.Inode{Kind: 2, Direct: [6]int{3}}
		for p := range n {
			name := like("r", p, depth, 3)
			if place, no, has := dread.Route(v, dir, name); place != p || no != tells[p] || !has {
				t.Errorf("Depth %d: Route %q: %d %d %v, want %d %d", depth, name, place, no, has, p, tells[p])
			}
		}
		for _, text := range noNames() {
			if place, no, has := dread.Route(v, dir, text); place != low(text, depth) || no != tells[place] || !has {
				t.Errorf("Depth %d: Route %q: %d %d %v", depth, text, place, no, has)
			}
		}
		check(t, v, dir, "a", "b")
	}
}

// Promise 24.1: a bucket that is no data block tells no name, though the block of that number has it.
func TestBucketPlace(t *testing.T) {
	for _, l := range layouts() {
		blocks := slices.Repeat([]api.Block{names(api.Entry{Name: "a", Ino: 9})}, l.Blocks)
		for no := range 65536 {
			if no > l.Blocks+3 && no%256 > 20 {
				continue
			}
			blocks[first(l)] = told(0, no)
			v, dir := over(l, blocks), api.Inode{Kind: 2, Direct: [6]int{first(l)}}
			p, has := dread.Lookup(v, dir, "a")
			if is := isData(l, no) && no != first(l); has != is || is && p != (dread.Place{Bucket: no, Ino: 9}) || !is && p != (dread.Place{}) {
				t.Fatalf("of %v: the bucket %d: %v %v", l, no, p, has)
			}
			if place, at, is := dread.Route(v, dir, "a"); place != 0 || at != no || !is {
				t.Fatalf("of %v: the bucket %d: Route %d %d %v", l, no, place, at, is)
			}
			check(t, v, dir)
		}
	}
}

// Promises 24.1 and 24.2: an inode that is no directory, or one whose block is none, or no index.
func TestWithoutIndex(t *testing.T) {
	v, dir := byHand()
	for _, kind := range kinds() {
		dir.Kind = kind
		isNothing(t, v, dir)
	}
	dir.Kind = 2
	for _, no := range wild() {
		dir.Direct[0] = no
		if no != 9 {
			isNothing(t, v, dir)
		}
	}
	isNothing(t, v, api.Inode{Kind: 2, Direct: [6]int{0, 9, 9, 9, 9, 9}, Indirect: 9})
	for _, l := range others() {
		isNothing(t, view.View{L: l, Get: v.Get}, api.Inode{Kind: 2, Direct: [6]int{9}})
	}
	for _, b := range []api.Block{told(6, 7), told(255, 7), told(0, 7, 5), names(api.Entry{Name: "a", Ino: 3})} {
		isNothing(t, view.View{L: v.L, Get: func(no int) api.Block { return b }}, api.Inode{Kind: 2, Direct: [6]int{9}})
	}
}

// Promise 24.1: what is no name is nowhere, though a slot has its bytes; such a slot counts nowhere.
func TestNoNames(t *testing.T) {
	l := api.Layout{Blocks: 16, Inodes: 8}
	dir := api.Inode{Kind: 2, Direct: [6]int{9}}
	for _, text := range noNames() {
		blocks := make([]api.Block, 16)
		blocks[9], blocks[5] = told(0, 5), names(api.Entry{Name: "z", Ino: 2}, api.Entry{Name: text[:min(len(text), 28)], Ino: 3})
		v := over(l, blocks)
		if p, has := dread.Lookup(v, dir, text); p != (dread.Place{}) || has {
			t.Errorf("Lookup %q: %v %v", text, p, has)
		}
		if len(dread.List(v, dir)) != 1 || len(dread.Stray(v, dir)) != 0 || !slices.Equal(dread.Load(v, dir), []int{1}) {
			t.Errorf("with %q: %v %v %v", text, dread.List(v, dir), dread.Stray(v, dir), dread.Load(v, dir))
		}
	}
}

// Promises 24.1 and 24.2: inodes that no entry can have make a slot that counts nowhere.
func TestInodes(t *testing.T) {
	l := api.Layout{Blocks: 16, Inodes: 8}
	dir := api.Inode{Kind: 2, Direct: [6]int{9}}
	for ino := range 65536 {
		blocks := make([]api.Block, 16)
		blocks[9], blocks[5] = told(0, 5), names(api.Entry{Name: "a", Ino: ino})
		v := over(l, blocks)
		p, has := dread.Lookup(v, dir, "a")
		if is := ino >= 1 && ino <= 128; has != is || dread.Empty(v, dir) == is || is && p != (dread.Place{Bucket: 5, Ino: ino}) {
			t.Fatalf("the inode %d: %v %v", ino, p, has)
		}
	}
}

// full is a directory of 32 buckets with seven names each, which stand there in no order.
func full() (view.View, api.Inode, []api.Entry) {
	l := api.Layout{Blocks: 64, Inodes: 128}
	blocks := make([]api.Block, 64)
	var tells []int
	var all []api.Entry
	for place := range 32 {
		var seven []api.Entry
		for n := range 7 {
			seven = append(seven, api.Entry{Name: like("n", place, 5, 6-n), Ino: 1 + (place*7+n)%128})
		}
		all, tells = append(all, seven...), append(tells, 63-place)
		blocks[63-place] = names(seven...)
	}
	blocks[18] = told(5, tells...)
	slices.SortFunc(all, func(a, b api.Entry) int { return strings.Compare(a.Name, b.Name) })
	return over(l, blocks), api.Inode{Kind: 2, Direct: [6]int{18}}, all
}

// Promises 24.1 to 24.3: the most names that a directory can have, by rising names.
func TestFull(t *testing.T) {
	v, dir, all := full()
	if got := dread.List(v, dir); !slices.Equal(got, all) || len(got) != 224 {
		t.Errorf("List: %v, want %v", got, all)
	}
	for _, e := range all {
		if p, has := dread.Lookup(v, dir, e.Name); !has || p.Ino != e.Ino || p.Bucket != 63-low(e.Name, 5) {
			t.Errorf("Lookup %q: %v %v", e.Name, p, has)
		}
	}
	if got := dread.Load(v, dir); !slices.Equal(got, slices.Repeat([]int{7}, 32)) || len(dread.Stray(v, dir)) != 0 || dread.Empty(v, dir) {
		t.Error(got, dread.Stray(v, dir))
	}
	check(t, v, dir, "a", "n")
}

// Promise 24.2: names rise byte by byte, whatever bytes they have; a beginning is ahead of what goes on.
func TestRising(t *testing.T) {
	l := []string{"\x01", "\x01\x01", "A", "Z", "a", "a\x01", "aa", "ab", "b", "b\x7f", "b\x80", "b\xff", "\x80", "\xc3\xa4", "\xff", "\xff\xff", strings.Repeat("\xff", 24), " ", "...", "-", "..a", "0", "10", "9"}
	blocks := make([]api.Block, 16)
	blocks[9] = told(2, 4, 5, 6, 7)
	var want []api.Entry
	for p := range 4 {
		var some []api.Entry
		for n, name := range l {
			if low(name, 2) == p && len(some) < 7 {
				some = append(some, api.Entry{Name: name, Ino: n + 1})
			}
		}
		slices.Reverse(some)
		blocks[4+p], want = names(some...), append(want, some...)
	}
	slices.SortFunc(want, func(a, b api.Entry) int { return slices.Compare([]byte(a.Name), []byte(b.Name)) })
	v, dir := over(api.Layout{Blocks: 16, Inodes: 8}, blocks), api.Inode{Kind: 2, Direct: [6]int{9}}
	if got := dread.List(v, dir); !slices.Equal(got, want) || len(got) < 20 {
		t.Errorf("List: %v, want %v", got, want)
	}
	check(t, v, dir, l...)
}

// Promise 24.2: stray entries alone make a directory empty; buckets come in the order of the index, each once.
func TestStray(t *testing.T) {
	blocks := make([]api.Block, 16)
	blocks[9] = told(2, 8, 16, 8, 4)
	blocks[8] = names(api.Entry{}, api.Entry{Name: like("s", 1, 2, 0), Ino: 2}, api.Entry{Name: like("s", 3, 2, 0), Ino: 3})
	blocks[4] = names(api.Entry{Name: like("s", 0, 2, 0), Ino: 4}, api.Entry{Name: like("s", 1, 2, 0), Ino: 5}, api.Entry{Name: like("s", 2, 2, 0), Ino: 6})
	v, dir := over(api.Layout{Blocks: 16, Inodes: 8}, blocks), api.Inode{Kind: 2, Direct: [6]int{9}}
	want := []dread.Place{{Bucket: 8, Slot: 1, Ino: 2}, {Bucket: 8, Slot: 2, Ino: 3}, {Bucket: 4, Slot: 0, Ino: 4}, {Bucket: 4, Slot: 1, Ino: 5}, {Bucket: 4, Slot: 2, Ino: 6}}
	if got := dread.Stray(v, dir); !slices.Equal(got, want) {
		t.Errorf("Stray: %v, want %v", got, want)
	}
	if got := dread.Load(v, dir); !slices.Equal(got, []int{2, 3}) || !dread.Empty(v, dir) || len(dread.List(v, dir)) != 0 {
		t.Error(got, dread.List(v, dir))
	}
	blocks[4] = slot(blocks[4], 6, like("s", 3, 2, 1), 7)
	if got := dread.List(v, dir); dread.Empty(v, dir) || !slices.Equal(got, []api.Entry{{Name: like("s", 3, 2, 1), Ino: 7}}) {
		t.Error("with one that is not stray:", got)
	}
	check(t, v, dir, "s")
}

// Promise 24.2: the same name in one bucket: the first slot has it, also if both tell one inode.
func TestTwice(t *testing.T) {
	blocks := make([]api.Block, 16)
	blocks[9], blocks[5] = told(1, 5, 5), names(slices.Repeat([]api.Entry{{Name: "a", Ino: 3}}, 7)...)
	v, dir := over(api.Layout{Blocks: 16, Inodes: 8}, blocks), api.Inode{Kind: 2, Direct: [6]int{9}}
	for k := range 7 {
		if p, has := dread.Lookup(v, dir, "a"); !has || p != (dread.Place{Bucket: 5, Slot: k, Ino: 3}) {
			t.Error("Lookup:", p, has)
		}
		if l := dread.Stray(v, dir); len(l) != 6-k || len(dread.List(v, dir)) != 1 || !slices.Equal(dread.Load(v, dir), []int{7 - k}) {
			t.Error(l, dread.List(v, dir), dread.Load(v, dir))
		}
		check(t, v, dir)
		blocks[5] = slot(blocks[5], k, "\x00", 0)
	}
}

// Promise 24.2: each bucket's entries are counted, those without any too.
func TestLoad(t *testing.T) {
	l := api.Layout{Blocks: 64, Inodes: 8}
	blocks := make([]api.Block, 64)
	var tells, want []int
	for place := range 8 {
		tells, want = append(tells, 40+place), append(want, place)
		var some []api.Entry
		for n := range place {
			some = append(some, api.Entry{Name: like("l", n%3, 3, n), Ino: 1 + n})
		}
		blocks[40+place] = names(some...)
	}
	blocks[3] = told(4, append(tells, tells...)...)
	v, dir := over(l, blocks), api.Inode{Kind: 2, Direct: [6]int{3}}
	if got := dread.Load(v, dir); !slices.Equal(got, want) {
		t.Errorf("Load: %v, want %v", got, want)
	}
	check(t, v, dir)
	blocks[3] = told(0, 0)
	if len(dread.Load(v, dir)) != 0 || !dread.Empty(v, dir) {
		t.Error("without a bucket:", dread.Load(v, dir))
	}
	blocks[3] = told(0, 3)
	if got := dread.Load(v, dir); !slices.Equal(got, []int{0}) {
		t.Error("an index that is its own bucket:", got)
	}
}

// devices tells blocks of any bytes, of buckets and of indexes, right ones and spoilt ones, as a layout's device.
func devices(r *rand.Rand, l api.Layout, pool []string) []api.Block {
	few := []int{first(l), l.Blocks - 1, first(l) + r.Intn(l.Blocks-first(l)), first(l) + r.Intn(l.Blocks-first(l))}
	blocks := make([]api.Block, l.Blocks)
	for no := range blocks {
		depth := r.Intn(6)
		many := make([]int, r.Intn(33))
		for k := range many {
			many[k] = append(few, r.Intn(l.Blocks+2), r.Intn(l.Blocks+2), 0)[r.Intn(7)]
		}
		many = append(many, make([]int, 33)...)
		switch r.Intn(8) {
		case 0:
			r.Read(blocks[no][:])
		case 1:
			blocks[no] = told(r.Intn(8), many[:r.Intn(33)]...)
		case 2, 3:
			blocks[no] = told(depth, many[:1<<depth]...)
		default:
			blocks[no] = spoilt(r, pool)
		}
	}
	return blocks
}

// spoilt tells a bucket of some names of the pool; some of its slots may be wrong.
func spoilt(r *rand.Rand, pool []string) api.Block {
	b := names()
	for k := range 7 {
		if r.Intn(4) != 0 {
			b = slot(b, k, pool[r.Intn(len(pool))], 1+r.Intn(128))
		}
		if r.Intn(8) == 0 {
			b[32+32*k+r.Intn(32)] = byte(r.Intn(256))
		}
	}
	if r.Intn(4) == 0 {
		b[r.Intn(32)]++
	}
	return b
}

// follows holds promise 24.3: just what is listed is found, names rise, and an entry is listed or stray.
func follows(t *testing.T, v view.View, dir api.Inode, pool []string) {
	t.Helper()
	l, n := dread.List(v, dir), 0
	for k, e := range l {
		if k > 0 && l[k-1].Name >= e.Name {
			t.Fatalf("of %v: %q is behind %q", dir, e.Name, l[k-1].Name)
		}
		if p, has := dread.Lookup(v, dir, e.Name); !has || p.Ino != e.Ino {
			t.Fatalf("of %v: %v is listed; found is %v %v", dir, e, p, has)
		}
	}
	for _, name := range pool {
		p, has := dread.Lookup(v, dir, name)
		if has != slices.Contains(l, api.Entry{Name: name, Ino: p.Ino}) {
			t.Fatalf("of %v: %q is found: %v %v; listed are %v", dir, name, p, has, l)
		}
		if _, no, is := dread.Route(v, dir, name); has && (!is || no != p.Bucket) {
			t.Fatalf("of %v: %q is routed to %d and found in %v", dir, name, no, p)
		}
	}
	for _, load := range dread.Load(v, dir) {
		n += load
	}
	if n != len(l)+len(dread.Stray(v, dir)) {
		t.Fatalf("of %v: %d entries, %v and %v", dir, n, l, dread.Stray(v, dir))
	}
}

// Promises 24.1 to 24.3: any blocks, by the words of the chapter.
func TestAny(t *testing.T) {
	r := rand.New(rand.NewSource(24))
	pool := []string{"a", "b", "c", "ab", "...", strings.Repeat("n", 24), strings.Repeat("\xff", 24), "\x01", even(0), even(1), odd(0), odd(1), like("x", 31, 5, 0), like("x", 15, 5, 0)}
	strays, listed := 0, 0
	for range 5 {
		for _, l := range layouts() {
			v := over(l, devices(r, l, pool))
			for no := range l.Blocks {
				dir := api.Inode{Kind: 2, Links: r.Intn(3), Parent: r.Intn(9), Direct: [6]int{no, no, no}, Indirect: no}
				check(t, v, dir, append(noNames(), pool...)...)
				follows(t, v, dir, pool)
				strays, listed = strays+len(dread.Stray(v, dir)), listed+len(dread.List(v, dir))
			}
		}
	}
	if strays < 1000 || listed < 1000 {
		t.Error("too few were tried:", strays, listed)
	}
}

// Promises 24.1 and 24.2: where blocks can't be read there are no names.
func TestWithoutFunction(t *testing.T) {
	l := api.Layout{Blocks: 16, Inodes: 8}
	dir := api.Inode{Kind: 2, Direct: [6]int{9}}
	for _, v := range []view.View{{}, {L: l}, view.On(l, nil), view.On(l, func(int) (api.Block, api.Errno) { return told(0, 7), api.ErrDown })} {
		isNothing(t, v, dir)
	}
	v := view.On(l, func(no int) (api.Block, api.Errno) {
		if no == 9 {
			return told(1, 7, 8), api.OK
		}
		return names(api.Entry{Name: "a", Ino: 2}), api.ErrRange
	})
	if place, no, has := dread.Route(v, dir, "a"); place != low("a", 1) || no != 7+place || !has || !dread.Empty(v, dir) || !slices.Equal(dread.Load(v, dir), []int{0, 0}) {
		t.Error(place, no, has, dread.Load(v, dir))
	}
}

// Promises 24.1 and 24.2: over a cache what is changed in memory is told, and nothing is written.
func TestOnCache(t *testing.T) {
	d, err := disk.From(make([]api.Block, 16))
	if err != api.OK {
		t.Fatal(err)
	}
	c := cache.New(d)
	v, dir := view.On(api.Layout{Blocks: 16, Inodes: 8}, c.Get), api.Inode{Kind: 2, Direct: [6]int{9}}
	isNothing(t, v, dir)
	x, b := told(0, 7), names(api.Entry{Name: "a", Ino: 2}, api.Entry{Name: "b", Ino: 3})
	c.Put(9, api.Patch{Data: x[:]})
	c.Put(7, api.Patch{Data: b[:]})
	if got := dread.List(v, dir); !slices.Equal(got, []api.Entry{{Name: "a", Ino: 2}, {Name: "b", Ino: 3}}) {
		t.Error("List:", got)
	}
	c.Put(7, api.Patch{At: 32, Data: make([]byte, 32)})
	if p, has := dread.Lookup(v, dir, "b"); !has || p != (dread.Place{Bucket: 7, Slot: 1, Ino: 3}) || len(dread.List(v, dir)) != 1 || d.Writes() != 0 {
		t.Error(p, has, dread.List(v, dir))
	}
	check(t, view.View{L: v.L, Get: v.Block}, dir, "a", "b")
}

// Rule R4: each answer is new memory.
func TestNewMemory(t *testing.T) {
	v, dir := byHand()
	list, stray, load := dread.List(v, dir), dread.Stray(v, dir), dread.Load(v, dir)
	kept, strays, loads := slices.Clone(list), slices.Clone(stray), slices.Clone(load)
	again, strayAgain, loadAgain := dread.List(v, dir), dread.Stray(v, dir), dread.Load(v, dir)
	clear(list)
	clear(stray)
	clear(load)
	if !slices.Equal(again, kept) || !slices.Equal(strayAgain, strays) || !slices.Equal(loadAgain, loads) {
		t.Error(again, strayAgain, loadAgain)
	}
	check(t, v, dir)
}

// The chapter's example.
func TestExample(t *testing.T) {
	v, _ := byHand()
	if l := dread.List(v, api.Inode{Kind: 2}); len(l) != 0 {
		t.Error(l)
	}
	isNothing(t, v, api.Inode{Kind: 2})
}

// P1: every call ends and none panics, at any arguments.
func TestAnyArguments(t *testing.T) {
	texts := append(noNames(), "a", "\xff\xfe", strings.Repeat("long ", 1000))
	for _, l := range slices.Concat(layouts(), others()) {
		for _, b := range []api.Block{{}, told(5, wild()[8:32]...), told(0, 9), names(api.Entry{Name: "a", Ino: 3})} {
			for _, v := range []view.View{{L: l}, view.On(l, nil), view.On(l, func(no int) (api.Block, api.Errno) { return b, api.Errno(no % 2) })} {
				for _, kind := range append(kinds(), 2) {
					for _, no := range wild() {
						check(t, view.View{L: l, Get: v.Block}, api.Inode{Kind: kind, Size: no, Parent: no, Direct: [6]int{no, no, no, no, no, no}, Indirect: no}, texts...)
					}
				}
			}
		}
	}
}
