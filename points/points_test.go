package points_test

import (
	"encoding/binary"
	"math"
	"math/rand"
	"slices"
	"testing"

	"escheat/api"
	"escheat/points"
)

// noPlaces are numbers of which there is no number; of some of them twice the number wraps round to a place of a block.
func noPlaces() []int {
	return []int{-1, -2, -64, -127, -128, -129, -256, 128, 129, 130, 192, 254, 255, 256, 257, 1 << 16, math.MinInt32, math.MaxInt32, 1 << 32, 1<<32 + 5, 1 << 62, 1<<62 + 3, 1<<63 - 2, math.MinInt, math.MinInt + 1, math.MinInt + 64, math.MinInt + 127, math.MaxInt}
}

// noNumbers are numbers that may not be; of some of them the two bytes would be those of one that may.
func noNumbers() []int {
	return []int{-1, -2, -7, -65535, -65536, -65537, 65536, 65537, 65543, 1 << 17, 1<<24 + 1, math.MinInt32, math.MaxInt32, 1 << 32, 1<<32 + 7, 1<<48 + 5, math.MinInt, math.MinInt + 1, math.MaxInt - 1, math.MaxInt}
}

// numbers are numbers that may be: of the lower byte, of the upper one, of both, and at the edges.
func numbers() []int {
	return []int{0, 1, 2, 7, 127, 128, 254, 255, 256, 257, 258, 511, 512, 0x1234, 0x3412, 0x7fff, 0x8000, 0xff00, 65534, 65535}
}

// at tells the number k of a block by the library.
func at(b api.Block, k int) int {
	return int(binary.LittleEndian.Uint16(b[2*k:]))
}

// of tells the block with these numbers by the library.
func of(l ...int) api.Block {
	var b api.Block
	for k, no := range l {
		binary.LittleEndian.PutUint16(b[2*k:], uint16(no))
	}
	return b
}

// all tells the 128 numbers of a block.
func all(b api.Block) []int {
	var l []int
	for k := range 128 {
		l = append(l, at(b, k))
	}
	return l
}

// blocks are blocks of all kinds: noughts, one number alone, all of them, bytes at random, and few numbers among noughts.
func blocks(n int) []api.Block {
	var ones, rising, falling api.Block
	for k := range ones {
		ones[k], rising[k], falling[k] = 255, byte(k), byte(255-k)
	}
	l := []api.Block{{}, ones, rising, falling}
	for k := range ones {
		var alone api.Block
		alone[k] = 1
		l = append(l, alone)
	}
	r := rand.New(rand.NewSource(20))
	for range n {
		var any, few api.Block
		r.Read(any[:])
		for range r.Intn(10) {
			few[r.Intn(256)] = byte(r.Intn(256))
		}
		front := any
		clear(front[r.Intn(257):])
		l = append(l, any, few, front)
	}
	return l
}

// tellers are functions that tell which numbers are kept, by their place, by themselves, or by both.
func tellers() []func(k, no int) bool {
	return []func(k, no int) bool{
		func(k, no int) bool { return true },
		func(k, no int) bool { return false },
		func(k, no int) bool { return k%2 == 0 },
		func(k, no int) bool { return k >= 64 },
		func(k, no int) bool { return k != 0 && k != 127 },
		func(k, no int) bool { return no%2 == 0 },
		func(k, no int) bool { return no < 256 },
		func(k, no int) bool { return no != 0 },
		func(k, no int) bool { return no == 0 },
		func(k, no int) bool { return no > k },
		func(k, no int) bool { return (no^k)%3 == 0 },
	}
}

// Promise 20.1: by hand, the least part ahead.
func TestGetByHand(t *testing.T) {
	b := api.Block{0: 7, 3: 1, 4: 2, 5: 1, 252: 255, 253: 255, 254: 9, 255: 8}
	for k, want := range map[int]int{0: 7, 1: 256, 2: 258, 3: 0, 64: 0, 125: 0, 126: 65535, 127: 2057} {
		if got := points.Get(b, k); got != want {
			t.Errorf("Get of %d: %d, want %d", k, got, want)
		}
	}
}

// Promise 20.1: every number of any block.
func TestGet(t *testing.T) {
	for n, b := range blocks(200) {
		for k := range 128 {
			if got := points.Get(b, k); got != at(b, k) {
				t.Fatalf("block %d: Get of %d: %d, want %d", n, k, got, at(b, k))
			}
		}
	}
}

// Promise 20.1: where there is no number, 0.
func TestGetOfNone(t *testing.T) {
	for n, b := range blocks(20) {
		for _, k := range noPlaces() {
			if got := points.Get(b, k); got != 0 {
				t.Fatalf("block %d: Get of %d: %d", n, k, got)
			}
		}
	}
}

// Promise 20.1: every place, and numbers of all kinds; the patch has both bytes, noughts too.
func TestPatch(t *testing.T) {
	for k := range 128 {
		for _, no := range numbers() {
			p, err := points.Patch(k, no)
			if err != api.OK || p.At != 2*k || !slices.Equal(p.Data, []byte{byte(no % 256), byte(no / 256)}) {
				t.Fatalf("Patch of %d, %d: %v %v", k, no, p, err)
			}
		}
	}
}

// Promise 20.1: every number that may be.
func TestPatchNumbers(t *testing.T) {
	for no := range 65536 {
		p, err := points.Patch(no%128, no)
		if err != api.OK || p.At != no%128*2 || len(p.Data) != 2 || int(p.Data[0])+256*int(p.Data[1]) != no {
			t.Fatalf("Patch of %d: %v %v", no, p, err)
		}
	}
}

// Promise 20.1: what Patch refuses, the place ahead of the number.
func TestPatchErrors(t *testing.T) {
	refused := func(k, no int, want api.Errno) {
		p, err := points.Patch(k, no)
		if err != want || p.At != 0 || p.Data != nil {
			t.Errorf("Patch of %d, %d: %v %v, want %v", k, no, p, err, want)
		}
	}
	for _, k := range noPlaces() {
		for _, no := range append(numbers(), noNumbers()...) {
			refused(k, no, api.ErrRange)
		}
	}
	for _, k := range []int{0, 1, 2, 63, 64, 126, 127} {
		for _, no := range noNumbers() {
			refused(k, no, api.ErrArg)
		}
	}
}

// Promise 20.1: by hand.
func TestMakeByHand(t *testing.T) {
	b, err := points.Make([]int{7, 0, 258, 65535})
	if want := (api.Block{0: 7, 4: 2, 5: 1, 6: 255, 7: 255}); err != api.OK || b != want {
		t.Error(b, err)
	}
	for _, none := range [][]int{nil, {}, {0}, make([]int, 128)} {
		if b, err := points.Make(none); err != api.OK || b != (api.Block{}) {
			t.Error(none, b, err)
		}
	}
}

// Promise 20.1: of each length that may be, and as it was read.
func TestMake(t *testing.T) {
	r := rand.New(rand.NewSource(201))
	for n := range 129 {
		l := make([]int, n)
		for k := range l {
			l[k] = []int{0, 65535, r.Intn(256), r.Intn(65536)}[r.Intn(4)]
		}
		kept := slices.Clone(l)
		b, err := points.Make(l)
		if err != api.OK || b != of(l...) {
			t.Fatalf("Make of %v: %v %v", l, b, err)
		}
		if !slices.Equal(l, kept) {
			t.Fatalf("Make changed %v to %v", kept, l)
		}
	}
	for n, b := range blocks(100) {
		if got, err := points.Make(all(b)); err != api.OK || got != b {
			t.Fatalf("block %d: Make of its numbers: %v %v", n, got, err)
		}
	}
}

// Promise 20.1: what Make refuses, too many ahead of what may not be.
func TestMakeErrors(t *testing.T) {
	refused := func(l []int, want api.Errno) {
		if b, err := points.Make(l); err != want || b != (api.Block{}) {
			t.Errorf("Make of %v: %v %v, want %v", l, b, err, want)
		}
	}
	for _, n := range []int{129, 130, 256, 257, 1000} {
		refused(make([]int, n), api.ErrRange)
		for _, no := range noNumbers() {
			for _, k := range []int{0, 127, 128, n - 1} {
				l := make([]int, n)
				l[k] = no
				refused(l, api.ErrRange)
			}
		}
	}
	for _, n := range []int{1, 2, 64, 128} {
		for _, no := range noNumbers() {
			for _, k := range []int{0, n / 2, n - 1} {
				l := slices.Repeat([]int{9}, n)
				l[k] = no
				refused(l, api.ErrArg)
			}
		}
	}
}

// Promise 20.2: by hand.
func TestListAndLastByHand(t *testing.T) {
	cases := []struct {
		b    api.Block
		list []int
		last int
	}{
		{api.Block{}, nil, 0},
		{of(7), []int{7}, 1},
		{of(0, 7), []int{7}, 2},
		{of(9, 7, 9, 0, 0, 256), []int{9, 7, 9, 256}, 6},
		{api.Block{254: 1}, []int{1}, 128},
		{api.Block{255: 1}, []int{256}, 128},
		{api.Block{0: 3, 255: 255}, []int{3, 65280}, 128},
		{api.Block{253: 1}, []int{256}, 127},
		{api.Block{1: 1}, []int{256}, 1},
	}
	for _, c := range cases {
		if got := points.List(c.b); !slices.Equal(got, c.list) {
			t.Errorf("List: %v, want %v", got, c.list)
		}
		if got := points.Last(c.b); got != c.last {
			t.Errorf("Last: %d, want %d", got, c.last)
		}
	}
}

// Promise 20.2: List and Last of blocks of all kinds.
func TestListAndLast(t *testing.T) {
	for n, b := range blocks(500) {
		var list []int
		last := 0
		for k, no := range all(b) {
			if no != 0 {
				list = append(list, no)
				last = k + 1
			}
		}
		if got := points.List(b); !slices.Equal(got, list) {
			t.Fatalf("block %d: List: %v, want %v", n, got, list)
		}
		if got := points.Last(b); got != last {
			t.Fatalf("block %d: Last: %d, want %d", n, got, last)
		}
	}
}

// Promise 20.2: by hand; a place is kept, and so is what stands elsewhere.
func TestKeepByHand(t *testing.T) {
	b := of(7, 0, 9, 258, 7)
	cases := []struct {
		is   func(k, no int) bool
		want api.Block
	}{
		{nil, b},
		{func(k, no int) bool { return true }, b},
		{func(k, no int) bool { return false }, api.Block{}},
		{func(k, no int) bool { return no != 7 }, of(0, 0, 9, 258)},
		{func(k, no int) bool { return no == 258 }, of(0, 0, 0, 258)},
		{func(k, no int) bool { return no != 258 }, of(7, 0, 9, 0, 7)},
		{func(k, no int) bool { return k != 0 }, of(0, 0, 9, 258, 7)},
		{func(k, no int) bool { return k < 3 }, of(7, 0, 9)},
	}
	for n, c := range cases {
		if got := points.Keep(b, c.is); got != c.want {
			t.Errorf("case %d: %v, want %v", n, got, c.want)
		}
	}
}

// Promises 20.2 and 20.3: blocks of all kinds; what is kept of what was kept is the same.
func TestKeep(t *testing.T) {
	for n, b := range blocks(200) {
		if got := points.Keep(b, nil); got != b {
			t.Fatalf("block %d: nil kept %v", n, got)
		}
		for m, is := range tellers() {
			l := all(b)
			for k, no := range l {
				if !is(k, no) {
					l[k] = 0
				}
			}
			got := points.Keep(b, is)
			if got != of(l...) {
				t.Fatalf("block %d, teller %d: %v", n, m, all(got))
			}
			if again := points.Keep(got, is); again != got {
				t.Fatalf("block %d, teller %d: kept again %v", n, m, all(again))
			}
		}
	}
}

// Promise 20.2: is is asked of each number but 0, with its place, as it stands in the block.
func TestKeepAsks(t *testing.T) {
	for n, b := range blocks(50) {
		for _, answer := range []bool{true, false} {
			asked := map[int]int{}
			points.Keep(b, func(k, no int) bool {
				asked[k] = no
				return answer
			})
			for k, no := range all(b) {
				if got, is := asked[k]; is != (no != 0) || got != no {
					t.Fatalf("block %d: asked of %d: %d %v, want %d", n, k, got, is, no)
				}
				delete(asked, k)
			}
			if len(asked) != 0 {
				t.Fatalf("block %d: asked of %v too", n, asked)
			}
		}
	}
}

// Promise 20.3: what is patched is got, and all others are as they were.
func TestPatched(t *testing.T) {
	for n, b := range blocks(30) {
		for k := range 128 {
			for _, no := range numbers() {
				p, err := points.Patch(k, no)
				if err != api.OK {
					t.Fatal(k, no, err)
				}
				after := b
				copy(after[p.At:], p.Data)
				want := all(b)
				want[k] = no
				if points.Get(after, k) != no || after != of(want...) {
					t.Fatalf("block %d: patched at %d to %d: %v", n, k, no, all(after))
				}
			}
		}
	}
}

// Promise 20.3: of any two numbers the patch of one leaves the other.
func TestPatchedOthers(t *testing.T) {
	b, _ := points.Make(slices.Repeat([]int{0x5aa5}, 128))
	for k := range 128 {
		p, _ := points.Patch(k, 0xa55a)
		after := b
		copy(after[p.At:], p.Data)
		for other := range 128 {
			want := 0x5aa5
			if other == k {
				want = 0xa55a
			}
			if got := points.Get(after, other); got != want {
				t.Fatalf("patched at %d: %d is %x", k, other, got)
			}
		}
	}
}

// The chapter's example.
func TestExample(t *testing.T) {
	b, err := points.Make([]int{7, 0, 9})
	if l := points.List(b); err != api.OK || !slices.Equal(l, []int{7, 9}) || points.Last(b) != 3 {
		t.Error(err, l, points.Last(b))
	}
}

// Rule R4: each answer is new memory.
func TestNewMemory(t *testing.T) {
	b := of(7, 9)
	l, same := points.List(b), points.List(b)
	l[0] = 1
	if !slices.Equal(same, []int{7, 9}) || !slices.Equal(points.List(b), []int{7, 9}) {
		t.Error(same)
	}
	p, _ := points.Patch(3, 258)
	q, _ := points.Patch(3, 258)
	p.Data[0] = 9
	if again, _ := points.Patch(3, 258); q.Data[0] != 2 || again.Data[0] != 2 {
		t.Error(q, again)
	}
}

// P1: every call ends and none panics, at any arguments.
func TestAnyArguments(t *testing.T) {
	r := rand.New(rand.NewSource(1))
	some := func() int {
		l := [][]int{noPlaces(), noNumbers(), numbers(), {int(r.Uint64()), int(int32(r.Uint32())), r.Intn(128)}}[r.Intn(4)]
		return l[r.Intn(len(l))]
	}
	l, tells := blocks(20), append(tellers(), nil)
	for range 20000 {
		b, k, no := l[r.Intn(len(l))], some(), some()
		want := 0
		if k >= 0 && k <= 127 {
			want = at(b, k)
		}
		if got := points.Get(b, k); got != want {
			t.Fatal(k, got, want)
		}
		if _, err := points.Patch(k, no); (err == api.OK) != (k >= 0 && k <= 127 && no >= 0 && no <= 65535) {
			t.Fatal(k, no, err)
		}
		var many []int
		for range r.Intn(5) * r.Intn(40) {
			many = append(many, some())
		}
		points.Make(many)
		points.Last(points.Keep(b, tells[r.Intn(len(tells))]))
		points.List(b)
	}
}
