package inode_test

import (
	"encoding/binary"
	"math"
	"math/rand"
	"testing"

	"escheat/api"
	"escheat/inode"
)

// A field is one of an inode's eleven numbers, with the first and the last place of its bytes, and the greatest number that may be.
type field struct {
	name       string
	of         func(i *api.Inode) *int
	from, upto int
	most       int
}

// fields are written down from the chapter, number by number.
func fields() []field {
	return []field{
		{"Kind", func(i *api.Inode) *int { return &i.Kind }, 0, 0, 2},
		{"Links", func(i *api.Inode) *int { return &i.Links }, 2, 3, 65535},
		{"Size", func(i *api.Inode) *int { return &i.Size }, 4, 7, 34304},
		{"Parent", func(i *api.Inode) *int { return &i.Parent }, 8, 9, 65535},
		{"Direct[0]", func(i *api.Inode) *int { return &i.Direct[0] }, 10, 11, 65535},
		{"Direct[1]", func(i *api.Inode) *int { return &i.Direct[1] }, 12, 13, 65535},
		{"Direct[2]", func(i *api.Inode) *int { return &i.Direct[2] }, 14, 15, 65535},
		{"Direct[3]", func(i *api.Inode) *int { return &i.Direct[3] }, 16, 17, 65535},
		{"Direct[4]", func(i *api.Inode) *int { return &i.Direct[4] }, 18, 19, 65535},
		{"Direct[5]", func(i *api.Inode) *int { return &i.Direct[5] }, 20, 21, 65535},
		{"Indirect", func(i *api.Inode) *int { return &i.Indirect }, 22, 23, 65535},
	}
}

// mayBe says of an inode what the chapter's words say.
func mayBe(i api.Inode) bool {
	for _, f := range fields() {
		n := *f.of(&i)
		if n < 0 || n > f.most || i.Kind == 0 && n != 0 {
			return false
		}
	}
	return true
}

// bytes tells the inode's bytes by the library, whether it may be or not.
func bytes(i api.Inode) [32]byte {
	var b [32]byte
	b[0] = byte(i.Kind)
	binary.LittleEndian.PutUint16(b[2:], uint16(i.Links))
	binary.LittleEndian.PutUint32(b[4:], uint32(i.Size))
	binary.LittleEndian.PutUint16(b[8:], uint16(i.Parent))
	for k, no := range append(append([]int{}, i.Direct[:]...), i.Indirect) {
		binary.LittleEndian.PutUint16(b[10+2*k:], uint16(no))
	}
	return b
}

// read tells by each field's places, byte by byte from the greatest part on, which inode the bytes are.
func read(b [32]byte) api.Inode {
	var i api.Inode
	for _, f := range fields() {
		n := 0
		for at := f.upto; at >= f.from; at-- {
			n = n*256 + int(b[at])
		}
		*f.of(&i) = n
	}
	return i
}

// edges are numbers at, and past, what a field may be, of each width, and of what an int can have.
func edges() []int {
	return []int{math.MinInt, math.MinInt + 1, math.MinInt32, -65536, -65535, -256, -3, -2, -1, 0, 1, 2, 3, 4, 255, 256, 257, 258, 32767, 32768, 34303, 34304, 34305, 65534, 65535, 65536, 65537, 65538, 1 << 24, math.MaxInt32, 1 << 31, 1<<32 - 1, 1 << 32, 1<<32 + 1, 1<<32 + 2, 1 << 62, math.MaxInt - 1, math.MaxInt}
}

// full tells an inode each of whose numbers is another one, and each byte of them.
func full(kind int) api.Inode {
	return api.Inode{Kind: kind, Links: 0x0201, Size: 0x0403, Parent: 0x0605, Direct: [6]int{0x0807, 0x0a09, 0x0c0b, 0x0e0d, 0x100f, 0x1211}, Indirect: 0x1413}
}

// greatest tells the inode of that kind with the greatest numbers that may be.
func greatest(kind int) api.Inode {
	return api.Inode{Kind: kind, Links: 65535, Size: 34304, Parent: 65535, Direct: [6]int{65535, 65535, 65535, 65535, 65535, 65535}, Indirect: 65535}
}

// some are inodes that may be.
func some() []api.Inode {
	l := []api.Inode{{}, {Kind: 1}, {Kind: 2}, full(1), full(2), greatest(1), greatest(2)}
	for _, kind := range []int{1, 2} {
		for _, f := range fields()[1:] {
			for _, n := range edges() {
				if n >= 0 && n <= f.most {
					one, other := api.Inode{Kind: kind}, full(kind)
					*f.of(&one), *f.of(&other) = n, n
					l = append(l, one, other)
				}
			}
		}
	}
	r := rand.New(rand.NewSource(16))
	for range 2000 {
		i := api.Inode{Kind: 1 + r.Intn(2)}
		for _, f := range fields()[1:] {
			*f.of(&i) = r.Intn(f.most + 1)
		}
		l = append(l, i)
	}
	return l
}

// others are inodes that may not be: just one number is past what it may be, or a free one has a number.
func others() []api.Inode {
	l := []api.Inode{full(0), full(3), full(-1), greatest(0), greatest(256), greatest(257)}
	for _, from := range []api.Inode{{Kind: 1}, {Kind: 2}, full(1), full(2), greatest(1)} {
		for _, f := range fields() {
			for _, n := range edges() {
				i := from
				*f.of(&i) = n
				if n < 0 || n > f.most {
					l = append(l, i)
				}
			}
		}
	}
	for _, f := range fields()[1:] {
		for _, n := range edges() {
			for _, kind := range []int{0, 3, -1} {
				i := api.Inode{Kind: kind}
				*f.of(&i) = n
				if n != 0 || kind != 0 {
					l = append(l, i)
				}
			}
		}
	}
	return l
}

// noise are bytes of all kinds: at random, with few that are not nought, and of inodes with one byte changed.
func noise(n int) [][32]byte {
	r := rand.New(rand.NewSource(32))
	var l [][32]byte
	for range n {
		var all, few, near [32]byte
		r.Read(all[:])
		l = append(l, all)
		for range r.Intn(4) {
			few[r.Intn(32)] = byte(r.Int())
		}
		l = append(l, few)
		near = bytes(api.Inode{Kind: r.Intn(3), Links: r.Intn(65536), Size: r.Intn(40000), Direct: [6]int{r.Intn(65536), r.Intn(512)}})
		near[r.Intn(32)] = byte(r.Int())
		l = append(l, near)
	}
	return l
}

// Promise 16.1: of each number what may be and what may not, whatever else there is.
func TestCheck(t *testing.T) {
	for _, i := range some() {
		if got := inode.Check(i); got != api.OK || !mayBe(i) {
			t.Fatalf("Check of %v: %d", i, got)
		}
	}
	for _, i := range others() {
		if got := inode.Check(i); got != api.ErrArg || mayBe(i) {
			t.Fatalf("Check of %v: %d, want ErrArg", i, got)
		}
	}
}

// Promise 16.1: by hand.
func TestCheckByHand(t *testing.T) {
	for _, k := range []struct {
		why  string
		i    api.Inode
		want api.Errno
	}{
		{"a free one", api.Inode{}, api.OK},
		{"a file", api.Inode{Kind: 1}, api.OK},
		{"a directory", api.Inode{Kind: 2}, api.OK},
		{"another kind", api.Inode{Kind: 3}, api.ErrArg},
		{"a kind below 0", api.Inode{Kind: -1}, api.ErrArg},
		{"a kind that has the lowest byte of a file's", api.Inode{Kind: 257}, api.ErrArg},
		{"a free one with a link", api.Inode{Links: 1}, api.ErrArg},
		{"a free one with a size", api.Inode{Size: 1}, api.ErrArg},
		{"a free one with a parent", api.Inode{Parent: 1}, api.ErrArg},
		{"a free one with a first block", api.Inode{Direct: [6]int{9}}, api.ErrArg},
		{"a free one with a last block", api.Inode{Direct: [6]int{5: 9}}, api.ErrArg},
		{"a free one with more blocks", api.Inode{Indirect: 9}, api.ErrArg},
		{"the greatest size", api.Inode{Kind: 1, Size: 34304}, api.OK},
		{"a size past that", api.Inode{Kind: 1, Size: 34305}, api.ErrArg},
		{"a size below 0", api.Inode{Kind: 1, Size: -1}, api.ErrArg},
		{"a directory with a size", api.Inode{Kind: 2, Size: 34304}, api.OK},
		{"a directory with a size past all", api.Inode{Kind: 2, Size: 34305}, api.ErrArg},
		{"the most links", api.Inode{Kind: 1, Links: 65535}, api.OK},
		{"too many links", api.Inode{Kind: 1, Links: 65536}, api.ErrArg},
		{"links below 0", api.Inode{Kind: 1, Links: -1}, api.ErrArg},
		{"a file with a parent", api.Inode{Kind: 1, Parent: 65535}, api.OK},
		{"a parent past all", api.Inode{Kind: 2, Parent: 65536}, api.ErrArg},
		{"a parent below 0", api.Inode{Kind: 2, Parent: -1}, api.ErrArg},
		{"the greatest first block", api.Inode{Kind: 1, Direct: [6]int{65535}}, api.OK},
		{"a first block past that", api.Inode{Kind: 1, Direct: [6]int{65536}}, api.ErrArg},
		{"a last block past that", api.Inode{Kind: 1, Direct: [6]int{5: 65536}}, api.ErrArg},
		{"a last block below 0", api.Inode{Kind: 1, Direct: [6]int{5: -1}}, api.ErrArg},
		{"the greatest block of more", api.Inode{Kind: 2, Indirect: 65535}, api.OK},
		{"a block of more past that", api.Inode{Kind: 1, Indirect: 65536}, api.ErrArg},
		{"a block of more below 0", api.Inode{Kind: 1, Indirect: -1}, api.ErrArg},
	} {
		if got := inode.Check(k.i); got != k.want {
			t.Errorf("Check of %s: %d, want %d", k.why, got, k.want)
		}
	}
}

// Promise 16.1: each byte, as the library writes it.
func TestPut(t *testing.T) {
	for _, i := range some() {
		if got, err := inode.Put(i); got != bytes(i) || err != api.OK {
			t.Fatalf("Put of %v: %v %d, want %v", i, got, err, bytes(i))
		}
	}
}

// Promise 16.1: Check's error, and noughts, of what may not be.
func TestPutOfOthers(t *testing.T) {
	for _, i := range others() {
		if got, err := inode.Put(i); got != ([32]byte{}) || err != api.ErrArg {
			t.Fatalf("Put of %v: %v %d, want noughts and ErrArg", i, got, err)
		}
	}
}

// byHand are inodes and their bytes, written by hand.
func byHand() []struct {
	i    api.Inode
	want [32]byte
} {
	return []struct {
		i    api.Inode
		want [32]byte
	}{
		{api.Inode{}, [32]byte{}},
		{api.Inode{Kind: 1, Links: 1, Size: 258}, [32]byte{1, 0, 1, 0, 2, 1}},
		{api.Inode{Kind: 2, Links: 1, Parent: 1, Direct: [6]int{4}}, [32]byte{2, 0, 1, 0, 0, 0, 0, 0, 1, 0, 4, 0}},
		{full(1), [32]byte{1, 0, 1, 2, 3, 4, 0, 0, 5, 6, 7, 8, 9, 10, 11, 12, 13, 14, 15, 16, 17, 18, 19, 20}},
		{full(2), [32]byte{2, 0, 1, 2, 3, 4, 0, 0, 5, 6, 7, 8, 9, 10, 11, 12, 13, 14, 15, 16, 17, 18, 19, 20}},
		{greatest(1), [32]byte{1, 0, 255, 255, 0, 134, 0, 0, 255, 255, 255, 255, 255, 255, 255, 255, 255, 255, 255, 255, 255, 255, 255, 255}},
	}
}

// Promises 16.1 and 16.2, and the chapter's example 1: there and back.
func TestByHand(t *testing.T) {
	for _, k := range byHand() {
		if got, err := inode.Put(k.i); got != k.want || err != api.OK {
			t.Errorf("Put of %v: %v %d, want %v", k.i, got, err, k.want)
		}
		if got := inode.Get(k.want); got != k.i {
			t.Errorf("Get of %v: %v, want %v", k.want, got, k.i)
		}
		if got, is := inode.Clean(k.want); got != k.i || !is {
			t.Errorf("Clean of %v: %v %v, want %v", k.want, got, is, k.i)
		}
	}
}

// Promise 16.2: the numbers of any bytes, also those of which no inode that may be has them.
func TestGet(t *testing.T) {
	for _, b := range noise(20000) {
		if got := inode.Get(b); got != read(b) {
			t.Fatalf("Get of %v: %v, want %v", b, got, read(b))
		}
	}
	for at := range 32 {
		for v := range 256 {
			var b [32]byte
			b[at] = byte(v)
			if got := inode.Get(b); got != read(b) {
				t.Fatalf("Get of %d at %d: %v, want %v", v, at, got, read(b))
			}
		}
	}
}

// Promise 16.2: by hand, of bytes all 255: each number is the greatest that its bytes can be, not one that may be; and where no number stands nothing counts.
func TestGetByHand(t *testing.T) {
	var ones [32]byte
	for at := range ones {
		ones[at] = 255
	}
	want := api.Inode{Kind: 255, Links: 65535, Size: 4294967295, Parent: 65535, Direct: [6]int{65535, 65535, 65535, 65535, 65535, 65535}, Indirect: 65535}
	if got := inode.Get(ones); got != want {
		t.Errorf("Get of ones: %v, want %v", got, want)
	}
	var blank [32]byte
	for _, at := range []int{1, 24, 25, 26, 27, 28, 29, 30, 31} {
		blank[at] = 255
	}
	if got := inode.Get(blank); got != (api.Inode{}) {
		t.Errorf("Get of bytes that have no number: %v", got)
	}
	if got := inode.Get([32]byte{0, 0, 7, 0, 1, 0, 0, 128}); got != (api.Inode{Links: 7, Size: 1<<31 + 1}) {
		t.Errorf("Get of a free one with links and a size: %v", got)
	}
}

// Promise 16.2: bytes are clean just where an inode that may be has them, all of them.
func TestClean(t *testing.T) {
	clean, spoilt := 0, 0
	for _, b := range noise(20000) {
		i := read(b)
		got, is := inode.Clean(b)
		if want := mayBe(i) && bytes(i) == b; is != want {
			t.Fatalf("Clean of %v: %v %v, want %v", b, got, is, want)
		}
		if is && got != i || !is && got != (api.Inode{}) {
			t.Fatalf("Clean of %v: %v %v, Get would be %v", b, got, is, i)
		}
		if is {
			clean++
		} else {
			spoilt++
		}
	}
	if clean < 1000 || spoilt < 1000 {
		t.Errorf("too few of one kind: %d clean, %d not", clean, spoilt)
	}
}

// Promise 16.2: of clean bytes one is another one, at each place with each value.
func TestCleanWithAnotherByte(t *testing.T) {
	for _, from := range []api.Inode{{}, {Kind: 1}, full(1), full(2), greatest(1), greatest(2)} {
		for at := range 32 {
			for v := range 256 {
				b := bytes(from)
				b[at] = byte(v)
				i := read(b)
				want := mayBe(i) && b[1] == 0 && [8]byte(b[24:]) == [8]byte{}
				if !want {
					i = api.Inode{}
				}
				if got, is := inode.Clean(b); got != i || is != want {
					t.Fatalf("Clean of %v: %v %v, want %v %v", b, got, is, i, want)
				}
			}
		}
	}
}

// Promise 16.2: by hand.
func TestCleanByHand(t *testing.T) {
	for _, k := range []struct {
		why string
		b   [32]byte
	}{
		{"a kind that is none", [32]byte{3}},
		{"the greatest kind", [32]byte{255}},
		{"a free one with a link", [32]byte{2: 1}},
		{"a free one with a size", [32]byte{4: 1}},
		{"a free one with more blocks", [32]byte{23: 1}},
		{"a free one with the byte that has no number", [32]byte{1: 1}},
		{"a free one with the last byte", [32]byte{31: 1}},
		{"a file with the byte that has no number", [32]byte{0: 1, 1: 1}},
		{"a file with the first byte behind", [32]byte{0: 1, 24: 1}},
		{"a file with the last byte behind", [32]byte{0: 1, 31: 128}},
		{"a file that is longer by one than may be", [32]byte{0: 1, 4: 1, 5: 134}},
		{"a file whose size has a third byte", [32]byte{0: 1, 6: 1}},
		{"a file whose size has a fourth byte", [32]byte{0: 1, 7: 128}},
		{"a directory that is longer by one than may be", [32]byte{0: 2, 4: 1, 5: 134}},
	} {
		if got, is := inode.Clean(k.b); got != (api.Inode{}) || is {
			t.Errorf("Clean of %s: %v %v", k.why, got, is)
		}
	}
	if got, is := inode.Clean([32]byte{0: 1, 4: 0, 5: 134}); got != (api.Inode{Kind: 1, Size: 34304}) || !is {
		t.Errorf("Clean of the longest file: %v %v", got, is)
	}
}

// Promise 16.2: Direct, then Indirect, of any inode.
func TestNumbers(t *testing.T) {
	for _, i := range append(some(), others()...) {
		want := [7]int{i.Direct[0], i.Direct[1], i.Direct[2], i.Direct[3], i.Direct[4], i.Direct[5], i.Indirect}
		if got := inode.Numbers(i); got != want {
			t.Fatalf("Numbers of %v: %v", i, got)
		}
	}
	i := api.Inode{Kind: 3, Links: 91, Size: 92, Parent: 93, Direct: [6]int{-1, 70000, 3, 0, 5, math.MaxInt}, Indirect: math.MinInt}
	if got := inode.Numbers(i); got != [7]int{-1, 70000, 3, 0, 5, math.MaxInt, math.MinInt} {
		t.Errorf("Numbers by hand: %v", got)
	}
}

// Promise 16.3: each size that may be, counted block by block, and those past the edges.
func TestBlocks(t *testing.T) {
	n := 0
	for size := range 34305 {
		if size > 256*n {
			n++
		}
		if got := inode.Blocks(size); got != n {
			t.Fatalf("Blocks of %d: %d, want %d", size, got, n)
		}
	}
	for size := -70000; size < 1; size++ {
		if got := inode.Blocks(size); got != 0 {
			t.Fatalf("Blocks of %d: %d, want 0", size, got)
		}
	}
	for size := 34305; size < 140000; size++ {
		if got := inode.Blocks(size); got != 134 {
			t.Fatalf("Blocks of %d: %d, want 134", size, got)
		}
	}
}

// Promise 16.3 and the chapter's example 2: by hand.
func TestBlocksByHand(t *testing.T) {
	for _, k := range [][2]int{{257, 2}, {0, 0}, {1, 1}, {2, 1}, {255, 1}, {256, 1}, {512, 2}, {513, 3}, {1536, 6}, {1537, 7}, {34048, 133}, {34049, 134}, {34303, 134}, {34304, 134}, {34305, 134}, {34560, 134}, {34561, 134},
		{1 << 32, 134}, {1<<32 + 1, 134}, {1 << 62, 134}, {math.MaxInt - 255, 134}, {math.MaxInt - 254, 134}, {math.MaxInt, 134},
		{-1, 0}, {-255, 0}, {-256, 0}, {-257, 0}, {-34304, 0}, {math.MinInt + 1, 0}, {math.MinInt, 0}} {
		if got := inode.Blocks(k[0]); got != k[1] {
			t.Errorf("Blocks of %d: %d, want %d", k[0], got, k[1])
		}
	}
}

// Promise 16.4: Get of Put is the inode, and clean; unlike inodes have unlike bytes.
func TestGetOfPut(t *testing.T) {
	of := map[[32]byte]api.Inode{}
	for _, i := range some() {
		b, err := inode.Put(i)
		if err != api.OK {
			t.Fatalf("Put of %v: %d", i, err)
		}
		if got := inode.Get(b); got != i {
			t.Fatalf("Get of Put of %v: %v", i, got)
		}
		if got, is := inode.Clean(b); got != i || !is {
			t.Fatalf("Clean of Put of %v: %v %v", i, got, is)
		}
		if other, is := of[b]; is && other != i {
			t.Fatalf("Put of %v and of %v are the same", i, other)
		}
		of[b] = i
	}
}

// Promise 16.4: what is clean is put as it was.
func TestPutOfClean(t *testing.T) {
	for _, b := range noise(20000) {
		i, is := inode.Clean(b)
		if !is {
			continue
		}
		if again, err := inode.Put(i); again != b || err != api.OK {
			t.Fatalf("Put of Clean of %v: %v %d", b, again, err)
		}
	}
}

// Promise P1: every call ends and none panics, whatever it is given, and answers the same when it is asked again.
func TestAnyArguments(t *testing.T) {
	r := rand.New(rand.NewSource(1))
	l := edges()
	for range 20000 {
		var i api.Inode
		for _, f := range fields() {
			*f.of(&i) = l[r.Intn(len(l))]
		}
		one, err := inode.Put(i)
		two, again := inode.Put(i)
		if one != two || err != again || err != inode.Check(i) || (err == api.OK) != mayBe(i) {
			t.Fatalf("Put of %v: %d, then %d, Check: %d", i, err, again, inode.Check(i))
		}
		if inode.Numbers(i) != inode.Numbers(i) || inode.Blocks(i.Size) != inode.Blocks(i.Size) {
			t.Fatalf("Numbers or Blocks of %v tell another thing when asked again", i)
		}
	}
	for _, b := range noise(2000) {
		if inode.Get(b) != inode.Get(b) {
			t.Fatalf("Get of %v tells another thing when asked again", b)
		}
		one, is := inode.Clean(b)
		if two, again := inode.Clean(b); one != two || is != again {
			t.Fatalf("Clean of %v tells another thing when asked again", b)
		}
	}
}
