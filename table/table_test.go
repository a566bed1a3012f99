package table_test

import (
	"encoding/binary"
	"math"
	"math/rand"
	"slices"
	"testing"

	"escheat/api"
	"escheat/inode"
	"escheat/patch"
	"escheat/table"
)

// noPlaces are numbers that are no place of a block; of some of them 32 times the number wraps round to a byte of a block.
func noPlaces() []int {
	return []int{-1, -2, -7, -8, -9, -256, 8, 9, 15, 16, 31, 32, 255, 256, 257, math.MinInt32, math.MaxInt32, 1 << 32, 1<<32 + 7, 1 << 59, 1<<59 + 1, 1<<59 + 7, 1 << 60, 1<<62 + 3, math.MinInt, math.MinInt + 1, math.MinInt + 7, math.MaxInt - 7, math.MaxInt}
}

// full tells an inode each byte of whose numbers is another one.
func full(kind int) api.Inode {
	return api.Inode{Kind: kind, Links: 0x0201, Size: 0x0403, Parent: 0x0605, Direct: [6]int{0x0807, 0x0a09, 0x0c0b, 0x0e0d, 0x100f, 0x1211}, Indirect: 0x1413}
}

// greatest tells the inode of that kind with the greatest numbers that may be.
func greatest(kind int) api.Inode {
	return api.Inode{Kind: kind, Links: 65535, Size: 34304, Parent: 65535, Direct: [6]int{65535, 65535, 65535, 65535, 65535, 65535}, Indirect: 65535}
}

// some are inodes that may be.
func some() []api.Inode {
	l := []api.Inode{{}, {Kind: 1}, {Kind: 2}, {Kind: 1, Links: 1}, {Kind: 1, Size: 34304}, {Kind: 2, Links: 1, Parent: 1, Direct: [6]int{4}}, {Kind: 1, Indirect: 65535}, full(1), full(2), greatest(1), greatest(2)}
	r := rand.New(rand.NewSource(17))
	for range 100 {
		i := api.Inode{Kind: 1 + r.Intn(2), Links: r.Intn(65536), Size: r.Intn(34305), Parent: r.Intn(65536), Indirect: r.Intn(65536)}
		for n := range i.Direct {
			i.Direct[n] = r.Intn(65536)
		}
		l = append(l, i)
	}
	return l
}

// others are inodes that may not be.
func others() []api.Inode {
	return []api.Inode{
		{Kind: 3}, {Kind: -1}, {Kind: 256}, {Kind: 257}, {Kind: math.MinInt}, {Kind: math.MaxInt}, full(3), full(0), greatest(0),
		{Links: 1}, {Size: 1}, {Parent: 1}, {Direct: [6]int{1}}, {Direct: [6]int{5: 1}}, {Indirect: 1},
		{Kind: 1, Links: -1}, {Kind: 1, Links: 65536}, {Kind: 1, Size: -1}, {Kind: 1, Size: 34305}, {Kind: 2, Size: 1 << 32}, {Kind: 2, Parent: -1}, {Kind: 2, Parent: 65536},
		{Kind: 1, Direct: [6]int{-1}}, {Kind: 1, Direct: [6]int{5: 65536}}, {Kind: 1, Indirect: -1}, {Kind: 2, Indirect: 65536},
	}
}

// bytes tells an inode's 32 bytes by the library, whether it may be or not.
func bytes(i api.Inode) [32]byte {
	var b [32]byte
	b[0] = byte(i.Kind)
	binary.LittleEndian.PutUint16(b[2:], uint16(i.Links))
	binary.LittleEndian.PutUint32(b[4:], uint32(i.Size))
	binary.LittleEndian.PutUint16(b[8:], uint16(i.Parent))
	for k, no := range append(i.Direct[:], i.Indirect) {
		binary.LittleEndian.PutUint16(b[10+2*k:], uint16(no))
	}
	return b
}

// spoilt are bytes that are no inode's, just a little.
func spoilt() [][32]byte {
	file := bytes(full(1))
	last, kind := file, file
	last[31] = 1
	kind[0] = 3
	return [][32]byte{{0: 3}, {0: 255}, {1: 1}, {2: 1}, {4: 1}, {23: 1}, {24: 1}, {31: 1}, {31: 128}, {0: 1, 1: 1}, {0: 1, 4: 1, 5: 134}, {0: 2, 31: 1}, last, kind}
}

// of tells the block that has these eight pieces one behind another.
func of(pieces [8][32]byte) api.Block {
	var b api.Block
	for at := range b {
		b[at] = pieces[at/32][at%32]
	}
	return b
}

// piece tells the bytes at the place k, byte by byte.
func piece(b api.Block, k int) [32]byte {
	var l [32]byte
	for at := range b {
		if at/32 == k {
			l[at%32] = b[at]
		}
	}
	return l
}

// blocks are blocks of all kinds: of inodes, of noughts, of bytes that are no inode's, of bytes at random, and mixed ones.
func blocks(n int) []api.Block {
	var ones, rising api.Block
	for at := range ones {
		ones[at], rising[at] = 255, byte(at)
	}
	l := []api.Block{{}, ones, rising}
	r := rand.New(rand.NewSource(71))
	good, bad := some(), spoilt()
	for range n {
		var clean, mixed [8][32]byte
		var all api.Block
		r.Read(all[:])
		for k := range 8 {
			clean[k] = bytes(good[r.Intn(len(good))])
			mixed[k] = [][32]byte{{}, {}, clean[k], clean[k], bad[r.Intn(len(bad))]}[r.Intn(5)]
			if r.Intn(3) == 0 {
				clean[k] = [32]byte{}
			}
		}
		l = append(l, all, of(clean), of(mixed))
	}
	return l
}

// alike tells whether both patches have the same place and bytes.
func alike(p, q api.Patch) bool {
	return p.At == q.At && slices.Equal(p.Data, q.Data)
}

// Promise 17.1: the bytes in each place of any block.
func TestRaw(t *testing.T) {
	for n, b := range blocks(300) {
		for k := range 8 {
			if got := table.Raw(b, k); got != piece(b, k) {
				t.Fatalf("block %d: Raw of %d: %v, want %v", n, k, got, piece(b, k))
			}
		}
	}
}

// Promise 17.1: by hand, of a block each of whose bytes is its place.
func TestRawByHand(t *testing.T) {
	var b api.Block
	for at := range b {
		b[at] = byte(at)
	}
	for k := range 8 {
		got := table.Raw(b, k)
		if int(got[0]) != 32*k || int(got[31]) != 32*k+31 {
			t.Errorf("Raw of %d begins with %d and ends with %d", k, got[0], got[31])
		}
	}
}

// Promise 17.1: the inode of each place whose bytes are clean, of noughts the free one, and of any other bytes none.
func TestGet(t *testing.T) {
	got, not := 0, 0
	for n, b := range blocks(1000) {
		for k := range 8 {
			i, is := table.Get(b, k)
			want, clean := inode.Clean(piece(b, k))
			if i != want || is != clean {
				t.Fatalf("block %d: Get of %d: %v %v, want %v %v", n, k, i, is, want, clean)
			}
			if is {
				got++
			} else {
				not++
			}
		}
	}
	if got < 1000 || not < 1000 {
		t.Errorf("too few of one kind: %d clean, %d not", got, not)
	}
}

// Promise 17.1: by hand.
func TestGetByHand(t *testing.T) {
	b := api.Block{32: 1, 34: 1, 36: 2, 37: 1, 64: 3, 96: 1, 127: 1, 224: 2, 232: 9, 234: 4}
	for _, c := range []struct {
		k    int
		want api.Inode
		is   bool
	}{
		{0, api.Inode{}, true},
		{1, api.Inode{Kind: 1, Links: 1, Size: 258}, true},
		{2, api.Inode{}, false},
		{3, api.Inode{}, false},
		{4, api.Inode{}, true},
		{7, api.Inode{Kind: 2, Parent: 9, Direct: [6]int{4}}, true},
		{8, api.Inode{}, false},
		{-1, api.Inode{}, false},
	} {
		if got, is := table.Get(b, c.k); got != c.want || is != c.is {
			t.Errorf("Get of %d: %v %v, want %v %v", c.k, got, is, c.want, c.is)
		}
	}
	for _, l := range spoilt() {
		for k := range 8 {
			var pieces [8][32]byte
			pieces[k] = l
			if got, is := table.Get(of(pieces), k); got != (api.Inode{}) || is {
				t.Errorf("Get of %v at %d: %v %v", l, k, got, is)
			}
		}
	}
}

// Promise 17.1: where there is no place there are noughts, no inode, and ErrRange, whatever the inode is: it is named ahead of ErrArg.
func TestNoPlace(t *testing.T) {
	for n, b := range blocks(3) {
		for _, k := range noPlaces() {
			if got := table.Raw(b, k); got != ([32]byte{}) {
				t.Errorf("block %d: Raw of %d: %v", n, k, got)
			}
			if got, is := table.Get(b, k); got != (api.Inode{}) || is {
				t.Errorf("block %d: Get of %d: %v %v", n, k, got, is)
			}
			for _, i := range append(some(), others()...) {
				if got, err := table.With(b, k, i); got != b || err != api.ErrRange {
					t.Errorf("block %d: With of %v at %d: %d, or another block", n, i, k, err)
				}
				if got, err := table.Patch(k, i); !alike(got, api.Patch{}) || err != api.ErrRange {
					t.Errorf("Patch of %v at %d: %v %d", i, k, got, err)
				}
			}
		}
	}
}

// Promise 17.1: what may not be is told, and leaves the block.
func TestNoInode(t *testing.T) {
	for n, b := range blocks(3) {
		for k := range 8 {
			for _, i := range others() {
				if got, err := table.With(b, k, i); got != b || err != api.ErrArg {
					t.Errorf("block %d: With of %v at %d: %d, or another block", n, i, k, err)
				}
				if got, err := table.Patch(k, i); !alike(got, api.Patch{}) || err != api.ErrArg {
					t.Errorf("Patch of %v at %d: %v %d", i, k, got, err)
				}
			}
		}
	}
}

// Promise 17.1: all 32 bytes of the inode, noughts too, at the bytes of the place.
func TestPatch(t *testing.T) {
	for k := range 8 {
		for _, i := range some() {
			want := bytes(i)
			got, err := table.Patch(k, i)
			if !alike(got, api.Patch{At: 32 * k, Data: want[:]}) || err != api.OK {
				t.Fatalf("Patch of %v at %d: %v %d", i, k, got, err)
			}
			if patch.Check(got) != api.OK {
				t.Fatalf("Patch of %v at %d may not be", i, k)
			}
		}
	}
}

// Promise 17.1: by hand; a free inode's patch is 32 noughts, not nothing.
func TestPatchByHand(t *testing.T) {
	for _, c := range []struct {
		k    int
		i    api.Inode
		want api.Patch
	}{
		{0, api.Inode{}, api.Patch{At: 0, Data: make([]byte, 32)}},
		{7, api.Inode{}, api.Patch{At: 224, Data: make([]byte, 32)}},
		{2, api.Inode{Kind: 2}, api.Patch{At: 64, Data: append([]byte{2}, make([]byte, 31)...)}},
		{1, api.Inode{Kind: 1, Links: 1, Size: 258}, api.Patch{At: 32, Data: append([]byte{1, 0, 1, 0, 2, 1}, make([]byte, 26)...)}},
		{7, full(1), api.Patch{At: 224, Data: []byte{1, 0, 1, 2, 3, 4, 0, 0, 5, 6, 7, 8, 9, 10, 11, 12, 13, 14, 15, 16, 17, 18, 19, 20, 0, 0, 0, 0, 0, 0, 0, 0}}},
	} {
		if got, err := table.Patch(c.k, c.i); !alike(got, c.want) || err != api.OK {
			t.Errorf("Patch of %v at %d: %v %d, want %v", c.i, c.k, got, err, c.want)
		}
	}
}

// Promise R4: a patch's bytes are new memory.
func TestPatchIsNew(t *testing.T) {
	one, _ := table.Patch(3, full(1))
	two, _ := table.Patch(3, full(1))
	for at := range one.Data {
		one.Data[at] ^= 0x5a
	}
	three, _ := table.Patch(3, full(1))
	if want := bytes(full(1)); !slices.Equal(two.Data, want[:]) || !slices.Equal(three.Data, want[:]) {
		t.Error("two patches share memory")
	}
}

// Promises 17.1 and 17.3: what is put is got, byte by byte, and each other place is as it was.
func TestWith(t *testing.T) {
	for n, b := range blocks(20) {
		for k := range 8 {
			for _, i := range some() {
				got, err := table.With(b, k, i)
				var pieces [8][32]byte
				for at := range pieces {
					pieces[at] = piece(b, at)
				}
				pieces[k] = bytes(i)
				if got != of(pieces) || err != api.OK {
					t.Fatalf("block %d: With of %v at %d: %v %d", n, i, k, got, err)
				}
				if back, is := table.Get(got, k); back != i || !is {
					t.Fatalf("block %d: Get of %v at %d: %v %v", n, i, k, back, is)
				}
				if table.Raw(got, k) != bytes(i) {
					t.Fatalf("block %d: Raw of %v at %d: %v", n, i, k, table.Raw(got, k))
				}
				p, _ := table.Patch(k, i)
				if patch.Lay(b, p) != got {
					t.Fatalf("block %d: With of %v at %d is not its patch", n, i, k)
				}
			}
		}
	}
}

// Promise 17.1: by hand; what stood in the place goes wholly.
func TestWithByHand(t *testing.T) {
	var ones api.Block
	for at := range ones {
		ones[at] = 255
	}
	got, err := table.With(ones, 5, api.Inode{})
	if err != api.OK {
		t.Errorf("With of a free inode: %d", err)
	}
	for at, v := range got {
		if in := at >= 160 && at < 192; in && v != 0 || !in && v != 255 {
			t.Errorf("the byte %d: %d", at, v)
		}
	}
}

// Promise 17.2: each set of places that have bytes, whatever these are and wherever they stand.
func TestFreeAndUsed(t *testing.T) {
	pieces := append(spoilt(), bytes(api.Inode{Kind: 1}), bytes(api.Inode{Kind: 2}), bytes(greatest(2)))
	for at := range 32 {
		var single [32]byte
		single[at] = 1
		pieces = append(pieces, single)
	}
	for bits := range 256 {
		for n := range pieces {
			var in [8][32]byte
			var want []int
			first := 8
			for k := range 8 {
				if bits>>k&1 == 1 {
					in[k] = pieces[(n+k)%len(pieces)]
					want = append(want, k)
				} else {
					first = min(first, k)
				}
			}
			b := of(in)
			if got := table.Used(b); !slices.Equal(got, want) {
				t.Fatalf("Used of %b: %v", bits, got)
			}
			got, is := table.Free(b)
			if first < 8 && (got != first || !is) || first == 8 && (got != 0 || is) {
				t.Fatalf("Free of %b: %d %v", bits, got, is)
			}
		}
	}
}

// Promise 17.2: a single byte makes its place used, and not one beside it.
func TestFreeAndUsedByByte(t *testing.T) {
	for at := range 256 {
		for _, v := range []byte{1, 128, 255} {
			var b api.Block
			b[at] = v
			if got := table.Used(b); !slices.Equal(got, []int{at / 32}) {
				t.Errorf("Used of %d at %d: %v", v, at, got)
			}
			want := 0
			if at < 32 {
				want = 1
			}
			if got, is := table.Free(b); got != want || !is {
				t.Errorf("Free of %d at %d: %d %v", v, at, got, is)
			}
		}
	}
}

// Promises 17.2 and 17.3: a place is free, or used, of any block.
func TestEachIsFreeOrUsed(t *testing.T) {
	for n, b := range blocks(500) {
		var used []int
		first, any := 0, false
		for k := range 8 {
			if piece(b, k) != ([32]byte{}) {
				used = append(used, k)
			} else if !any {
				first, any = k, true
			}
		}
		if got := table.Used(b); !slices.Equal(got, used) {
			t.Fatalf("block %d: Used: %v, want %v", n, got, used)
		}
		if got, is := table.Free(b); got != first || is != any {
			t.Fatalf("block %d: Free: %d %v, want %d %v", n, got, is, first, any)
		}
	}
}

// Promise R4: the list of used places is new memory.
func TestUsedIsNew(t *testing.T) {
	b := api.Block{0: 1, 64: 1, 255: 1}
	one, two := table.Used(b), table.Used(b)
	for n := range one {
		one[n] = 99
	}
	if !slices.Equal(two, []int{0, 2, 7}) || !slices.Equal(table.Used(b), []int{0, 2, 7}) {
		t.Error("two answers share memory")
	}
}

// Promise 17.2: a block is clean just where each of its places is.
func TestClean(t *testing.T) {
	clean, not := 0, 0
	for n, b := range blocks(1000) {
		want := true
		for k := range 8 {
			_, is := inode.Clean(piece(b, k))
			want = want && is
		}
		if got := table.Clean(b); got != want {
			t.Fatalf("block %d: Clean: %v", n, got)
		}
		if want {
			clean++
		} else {
			not++
		}
	}
	if clean < 500 || not < 500 {
		t.Errorf("too few of one kind: %d clean, %d not", clean, not)
	}
}

// Promise 17.2: one place alone that is not clean, each one, among free and full ones.
func TestCleanByHand(t *testing.T) {
	free, filled := [8][32]byte{}, [8][32]byte{}
	for k := range filled {
		filled[k] = bytes(full(1 + k%2))
	}
	if !table.Clean(of(free)) || !table.Clean(of(filled)) {
		t.Error("what is clean is not")
	}
	for _, from := range [][8][32]byte{free, filled} {
		for k := range 8 {
			for _, l := range spoilt() {
				pieces := from
				pieces[k] = l
				if table.Clean(of(pieces)) {
					t.Errorf("%v at %d is clean", l, k)
				}
			}
		}
	}
}

// Promise 17.3: the first free place is got, put, and used behind that, till there is none; a free inode frees it again.
func TestFilled(t *testing.T) {
	var b api.Block
	for k := range 8 {
		at, is := table.Free(b)
		if at != k || !is {
			t.Fatalf("Free with %d places used: %d %v", k, at, is)
		}
		b, _ = table.With(b, at, full(1+k%2))
		if got := table.Used(b); len(got) != k+1 || got[k] != k || !table.Clean(b) {
			t.Fatalf("Used behind %d: %v", k, got)
		}
	}
	if at, is := table.Free(b); at != 0 || is {
		t.Errorf("Free of a full block: %d %v", at, is)
	}
	b, _ = table.With(b, 6, api.Inode{})
	if at, is := table.Free(b); at != 6 || !is {
		t.Errorf("Free behind a free inode at 6: %d %v", at, is)
	}
}

// The chapter's example 1.
func TestExample(t *testing.T) {
	b, err := table.With(api.Block{}, 2, api.Inode{Kind: api.Dir})
	if b != (api.Block{64: 2}) || err != api.OK {
		t.Errorf("With: %v %d", b, err)
	}
	if at, is := table.Free(b); at != 0 || !is {
		t.Errorf("Free: %d %v", at, is)
	}
	if got := table.Used(b); !slices.Equal(got, []int{2}) {
		t.Errorf("Used: %v", got)
	}
}

// Promise P1: every call ends and none panics, whatever it is given, and answers the same when it is asked again.
func TestAnyArguments(t *testing.T) {
	r := rand.New(rand.NewSource(1))
	inodes, all := append(some(), others()...), blocks(30)
	for range 20000 {
		b, k, i := all[r.Intn(len(all))], r.Intn(12)-2, inodes[r.Intn(len(inodes))]
		if r.Intn(3) == 0 {
			k = int(r.Uint64())
		}
		one, err := table.With(b, k, i)
		two, again := table.With(b, k, i)
		if one != two || err != again {
			t.Fatalf("With of %v at %d tells another thing when asked again", i, k)
		}
		want := api.OK
		if k < 0 || k > 7 {
			want = api.ErrRange
		} else if inode.Check(i) != api.OK {
			want = api.ErrArg
		}
		p, perr := table.Patch(k, i)
		if err != want || perr != want || patch.Lay(b, p) != one {
			t.Fatalf("With of %v at %d: %d, Patch: %d, want %d", i, k, err, perr, want)
		}
		got, is := table.Get(b, k)
		if other, too := table.Get(b, k); other != got || too != is || table.Raw(b, k) != piece(b, k) {
			t.Fatalf("Get or Raw at %d tells another thing when asked again", k)
		}
	}
}
