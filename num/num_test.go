package num_test

import (
	"bytes"
	"encoding/binary"
	"math"
	"testing"

	"escheat/api"
	"escheat/num"
)

// span is a number's place and width.
type span struct{ at, width int }

// spans lists which numbers a list of that length has, by counting, so that nothing can wrap round.
func spans(length, most int) map[span]bool {
	all := map[span]bool{}
	for width := 1; width <= most; width++ {
		for at := 0; at+width <= length; at++ {
			all[span{at, width}] = true
		}
	}
	return all
}

// around tells places that there are and that there are not, at the edges of that length and of what an int can have.
func around(length int) []int {
	l := []int{math.MinInt, math.MinInt + 1, math.MinInt + 8, math.MinInt32, -257, -256, -9, -2, -1}
	for at := 0; at <= length+9; at++ {
		l = append(l, at)
	}
	for back := 9; back >= 0; back-- {
		l = append(l, math.MaxInt-back)
	}
	return append(l, math.MaxInt32, math.MaxInt32+1, 1<<32, 1<<32+1, 1<<62)
}

var widths = []int{math.MinInt, math.MinInt + 1, -8, -1, 0, 1, 2, 3, 4, 5, 6, 7, 8, 9, 16, 255, 256, 257, 1 << 32, 1<<32 + 1, math.MaxInt - 1, math.MaxInt}

var numbers = []int{0, 1, -1, 2, -2, 127, 128, 255, 256, -128, -256, 258, 65535, 65536, -65536, 0x01020304, 0x7fffffff, 0x80000000, 0xffffffff, 1 << 32, -1 << 32, 0x0102030405060708, math.MaxInt, math.MinInt}

// motley tells bytes that are all unlike their neighbours, and none of them nought.
func motley(length int) []byte {
	l := make([]byte, length)
	for k := range l {
		l[k] = byte(k*37%255 + 1)
	}
	return l
}

func motleyBlock() api.Block {
	return api.Block(motley(api.BlockSize))
}

// value tells the number that bytes are, the least part ahead, by the library.
func value(b []byte) uint64 {
	return binary.LittleEndian.Uint64(append(bytes.Clone(b), make([]byte, 8-len(b))...))
}

// lowest tells the lowest width bytes of v, the least part ahead, by the library.
func lowest(v uint64, width int) []byte {
	return binary.LittleEndian.AppendUint64(nil, v)[:width]
}

// Promise 1.1: what Get reads of lists of all lengths, at all places, and what it refuses.
func TestGet(t *testing.T) {
	for _, length := range []int{0, 1, 2, 4, 7, 8, 9, 16, 300} {
		b, there := motley(length), spans(length, 8)
		for _, at := range around(length) {
			for _, width := range widths {
				v, ok := num.Get(b, at, width)
				if !there[span{at, width}] {
					if v != 0 || ok {
						t.Errorf("Get of %d bytes, at %d, width %d: %d %v, want 0 false", length, at, width, v, ok)
					}
				} else if want := value(b[at : at+width]); v != want || !ok {
					t.Errorf("Get of %d bytes, at %d, width %d: %d %v, want %d true", length, at, width, v, ok, want)
				}
			}
		}
	}
}

// Promise 1.1: what Put writes, at all places, and what it refuses.
func TestPut(t *testing.T) {
	for _, length := range []int{0, 1, 2, 4, 7, 8, 9, 40} {
		b, there := motley(length), spans(length, 8)
		for _, at := range around(length) {
			for _, width := range widths {
				for _, v := range numbers {
					got, ok := num.Put(b, at, width, uint64(v))
					if !there[span{at, width}] {
						if len(got) != 0 || ok {
							t.Errorf("Put into %d bytes, at %d, width %d: %v %v, want none false", length, at, width, got, ok)
						}
						continue
					}
					want := motley(length)
					copy(want[at:], lowest(uint64(v), width))
					if !bytes.Equal(got, want) || !ok {
						t.Errorf("Put of %d, at %d, width %d: %v %v, want %v true", v, at, width, got, ok, want)
					}
				}
			}
		}
		if !bytes.Equal(b, motley(length)) {
			t.Errorf("Put changed the list of %d bytes that was handed in", length)
		}
	}
}

// Promise 1.1 and the chapter's example 1.
func TestListsByHand(t *testing.T) {
	b, ok := num.Put([]byte{0, 0, 0}, 1, 2, 258)
	if !bytes.Equal(b, []byte{0, 2, 1}) || !ok {
		t.Error("example 1:", b, ok)
	}
	if v, ok := num.Get([]byte{255, 255, 255, 255, 255, 255, 255, 255}, 0, 8); v != math.MaxUint64 || !ok {
		t.Error("greatest:", v, ok)
	}
	if v, ok := num.Get([]byte{1, 2, 3, 4, 5, 6, 7, 8, 9}, 1, 8); v != 0x0908070605040302 || !ok {
		t.Error("eight bytes:", v, ok)
	}
	if v, ok := num.Get(nil, 0, 1); v != 0 || ok {
		t.Error("nil:", v, ok)
	}
	if b, ok := num.Put(nil, 0, 1, 1); len(b) != 0 || ok {
		t.Error("nil:", b, ok)
	}
	if b, ok := num.Put([]byte{1, 2}, 0, 0, 7); len(b) != 0 || ok {
		t.Error("width 0:", b, ok)
	}
}

// Promise 1.1 and R4: Put's answer is a new list, beyond its length too.
func TestPutIsNew(t *testing.T) {
	room := []byte{1, 2, 3, 4, 5, 6}
	b := room[:4]
	got, _ := num.Put(b, 0, 2, 0x0909)
	got = append(got, 99)
	got[2], got[3] = 77, 77
	if !bytes.Equal(room, []byte{1, 2, 3, 4, 5, 6}) {
		t.Error("what was handed in is shared:", room)
	}
	again, _ := num.Put(b, 0, 2, 0x0909)
	if !bytes.Equal(again, []byte{9, 9, 3, 4}) {
		t.Error("two answers share:", again)
	}
}

// Promise 1.2: what At reads of a block, at all places, and what it refuses.
func TestAt(t *testing.T) {
	b, there := motleyBlock(), spans(api.BlockSize, 4)
	for _, at := range around(api.BlockSize) {
		for _, width := range widths {
			want := 0
			if there[span{at, width}] {
				want = int(value(b[at : at+width]))
			}
			if v := num.At(b, at, width); v != want {
				t.Errorf("At %d, width %d: %d, want %d", at, width, v, want)
			}
		}
	}
	if b != motleyBlock() {
		t.Error("At changed the block")
	}
}

// Promise 1.2: what With writes into a block, numbers below 0 and too great ones too, and where it leaves the block.
func TestWith(t *testing.T) {
	b, there := motleyBlock(), spans(api.BlockSize, 4)
	for _, at := range around(api.BlockSize) {
		for _, width := range widths {
			for _, v := range numbers {
				want := motleyBlock()
				if there[span{at, width}] {
					copy(want[at:], lowest(uint64(v), width))
				}
				if num.With(b, at, width, v) != want {
					t.Errorf("With %d, at %d, width %d", v, at, width)
				}
			}
		}
	}
	if b != motleyBlock() {
		t.Error("With changed the block that was handed in")
	}
}

// Promise 1.2 and the chapter's example 2.
func TestBlocksByHand(t *testing.T) {
	if v := num.At(num.Of([]byte{1, 1}), 0, 2); v != 257 {
		t.Error("example 2:", v)
	}
	full := num.Of(bytes.Repeat([]byte{255}, 256))
	for _, c := range []struct{ at, width, want int }{
		{0, 0, 0}, {0, 1, 255}, {0, 4, 4294967295}, {0, 5, 0}, {0, 8, 0}, {0, 9, 0}, {0, -1, 0},
		{252, 4, 4294967295}, {253, 4, 0}, {253, 3, 16777215}, {255, 1, 255}, {255, 2, 0}, {256, 1, 0}, {-1, 1, 0}, {-1, 2, 0},
	} {
		if v := num.At(full, c.at, c.width); v != c.want {
			t.Errorf("At %d, width %d: %d, want %d", c.at, c.width, v, c.want)
		}
	}
	below := num.With(api.Block{}, 10, 4, -2)
	if below != num.Lay(api.Block{}, 10, []byte{254, 255, 255, 255}) || num.At(below, 10, 4) != 4294967294 {
		t.Error("a number below 0:", below[8:16])
	}
	for _, width := range []int{-1, 0, 5, 8, 9} {
		if num.With(full, 0, width, 0) != full {
			t.Errorf("With changed the block, width %d", width)
		}
	}
}

// Promise 1.3: what Cut tells of a block, at all places, for counts of all kinds.
func TestCut(t *testing.T) {
	b := motleyBlock()
	counts := append(around(api.BlockSize), widths...)
	for _, at := range around(api.BlockSize) {
		for _, n := range counts {
			var want []byte
			for k := 0; at >= 0 && at <= 255 && k < n && at+k <= 255; k++ {
				want = append(want, b[at+k])
			}
			if got := num.Cut(b, at, n); !bytes.Equal(got, want) {
				t.Fatalf("Cut at %d, %d bytes: %v, want %v", at, n, got, want)
			}
		}
	}
}

// Promise 1.3 and R4: what Cut tells is new each time.
func TestCutIsNew(t *testing.T) {
	b := motleyBlock()
	one, two := num.Cut(b, 0, 256), num.Cut(b, 0, 256)
	for k := range one {
		one[k] = 0
	}
	if b != motleyBlock() || !bytes.Equal(two, motley(256)) {
		t.Error("what Cut told is shared")
	}
}

// Promise 1.3: what Lay writes into a block, at all places, and how far it goes.
func TestLay(t *testing.T) {
	b := motleyBlock()
	for _, length := range []int{0, 1, 2, 4, 255, 256, 257, 1000} {
		data := bytes.Repeat([]byte{0, 255, 77}, 400)[:length]
		kept := bytes.Clone(data)
		for _, at := range around(api.BlockSize) {
			want := motleyBlock()
			for k := 0; at >= 0 && at <= 255 && k < length && at+k <= 255; k++ {
				want[at+k] = data[k]
			}
			if num.Lay(b, at, data) != want {
				t.Errorf("Lay at %d, %d bytes", at, length)
			}
		}
		if b != motleyBlock() || !bytes.Equal(data, kept) {
			t.Errorf("Lay of %d bytes changed what was handed in", length)
		}
	}
	if num.Lay(b, 7, nil) != b {
		t.Error("Lay of nil changed the block")
	}
}

// Promise 1.3: Of begins a block of noughts, and leaves what there is no room for.
func TestOf(t *testing.T) {
	for _, length := range []int{0, 1, 2, 255, 256, 257, 1000} {
		data := motley(length)
		want := api.Block{}
		for k := 0; k < length && k <= 255; k++ {
			want[k] = data[k]
		}
		got := num.Of(data)
		if got != want || got != num.Lay(api.Block{}, 0, data) {
			t.Errorf("Of %d bytes", length)
		}
	}
	if num.Of(nil) != (api.Block{}) {
		t.Error("Of nil")
	}
}

// Promise 1.4: of a list what is written is read, if it has no more bytes than the width; what stands elsewhere is as it was.
func TestWrittenInListsIsRead(t *testing.T) {
	b := motley(24)
	for s := range spans(len(b), 8) {
		for _, number := range numbers {
			v := uint64(number)
			c, ok := num.Put(b, s.at, s.width, v)
			if !ok || len(c) != len(b) {
				t.Fatalf("Put at %d, width %d: %v %v", s.at, s.width, c, ok)
			}
			got, _ := num.Get(c, s.at, s.width)
			fit := s.width == 8 || v>>(8*s.width) == 0
			if (got == v) != fit {
				t.Errorf("Get of what was put at %d, width %d: %d, want %d", s.at, s.width, got, v)
			}
			if !bytes.Equal(c[:s.at], b[:s.at]) || !bytes.Equal(c[s.at+s.width:], b[s.at+s.width:]) {
				t.Errorf("Put at %d, width %d changed what stands elsewhere", s.at, s.width)
			}
		}
	}
}

// Promise 1.4: of a block likewise, and of its bytes.
func TestWrittenInBlocksIsRead(t *testing.T) {
	b := motleyBlock()
	for s := range spans(len(b), 4) {
		for _, v := range numbers {
			c := num.With(b, s.at, s.width, v)
			fit := v >= 0 && v>>(8*s.width) == 0
			if got := num.At(c, s.at, s.width); (got == v) != fit {
				t.Errorf("At of what was written at %d, width %d: %d, want %d", s.at, s.width, got, v)
			}
			if !bytes.Equal(c[:s.at], b[:s.at]) || !bytes.Equal(c[s.at+s.width:], b[s.at+s.width:]) {
				t.Errorf("With at %d, width %d changed what stands elsewhere", s.at, s.width)
			}
		}
	}
	data := []byte{9, 0, 8, 255}
	for at := 0; at+len(data) <= len(b); at++ {
		c := num.Lay(b, at, data)
		if !bytes.Equal(num.Cut(c, at, len(data)), data) || num.Lay(c, at, num.Cut(b, at, len(data))) != b {
			t.Errorf("Cut of what was laid at %d", at)
		}
	}
}

// Promise P1: every call ends and none panics, whatever the numbers are together.
func TestAnyArguments(t *testing.T) {
	odd := append(append(around(260), widths...), numbers...)
	lists := [][]byte{nil, {}, {1}, motley(8), motley(256), motley(300)}
	for _, at := range odd {
		for _, n := range odd {
			for _, b := range lists {
				num.Get(b, at, n)
				num.Put(b, at, n, uint64(at))
			}
			num.At(api.Block{}, at, n)
			num.With(api.Block{}, at, n, at)
			num.With(api.Block{}, at, n, n)
			num.Cut(api.Block{}, at, n)
		}
		for _, b := range lists {
			num.Lay(api.Block{}, at, b)
			num.Of(b)
		}
	}
}
