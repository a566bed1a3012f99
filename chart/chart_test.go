package chart_test

import (
	"math"
	"math/big"
	"math/rand"
	"slices"
	"testing"

	"escheat/api"
	"escheat/chart"
)

const all = 2048 // bits of a block

// edges are numbers at, and past, the edges of a byte, of a block, and of what an int can have.
func edges() []int {
	return []int{math.MinInt, math.MinInt + 1, math.MinInt + 8, math.MinInt32, -2049, -2048, -2047, -257, -256, -9, -8, -7, -1,
		0, 1, 6, 7, 8, 9, 15, 16, 17, 255, 256, 257, 511, 512, 1000, 1023, 1024, 2039, 2040, 2041, 2046, 2047, 2048, 2049, 2055, 2056, 4095, 4096, 1 << 16,
		math.MaxInt32, math.MaxInt32 + 1, 1 << 32, 1<<32 + 1, 1<<32 + 7, 1 << 62, math.MaxInt - 8, math.MaxInt - 7, math.MaxInt - 1, math.MaxInt}
}

// numbers are all bits of a block, some past it on both sides, and the edges.
func numbers() []int {
	l := edges()
	for i := -20; i < all+20; i++ {
		l = append(l, i)
	}
	return l
}

// noise tells a block of which about every part-th bit is set, always the same of the same numbers.
func noise(seed int64, part int) api.Block {
	r, b := rand.New(rand.NewSource(seed)), api.Block{}
	for at := range b {
		for k := range 8 {
			if r.Intn(part) == 0 {
				b[at] |= 1 << k
			}
		}
	}
	return b
}

func filled(v byte) api.Block {
	b := api.Block{}
	for at := range b {
		b[at] = v
	}
	return b
}

// blocks are of noughts, of ones, of one bit, of all but one, of runs, and of noise.
func blocks() []api.Block {
	l := []api.Block{{}, filled(0xff), filled(0xaa), filled(0x55), filled(0x0f), filled(0x01), filled(0x80), {1, 2}, {0x80, 0x01}, {255: 0x80}, {0: 0x01}, {100: 0x10}, {0xff, 0xff, 0xff, 0x7f}}
	for _, at := range []int{0, 7, 128, 255} {
		for _, v := range []byte{0x7f, 0xfe, 0xef} {
			b := filled(0xff)
			b[at] = v
			l = append(l, b)
		}
	}
	for _, part := range []int{1, 2, 3, 10, 100, 1000} {
		l = append(l, noise(int64(part), part), noise(int64(-part), part))
	}
	return l
}

// whole tells the block as one great number, its first byte the least part: the bit i of the block is that number's bit i.
func whole(b api.Block) *big.Int {
	l := slices.Clone(b[:])
	slices.Reverse(l)
	return new(big.Int).SetBytes(l)
}

// row tells of each of a block's bits whether it is set.
func row(b api.Block) []bool {
	n, l := whole(b), make([]bool, all)
	for i := range l {
		l[i] = n.Bit(i) == 1
	}
	return l
}

// bytesOf tells the block of which n is the whole.
func bytesOf(n *big.Int) api.Block {
	l := n.FillBytes(make([]byte, api.BlockSize))
	slices.Reverse(l)
	return api.Block(l)
}

// block tells the block of which l is the row.
func block(l []bool) api.Block {
	n := new(big.Int)
	for i := range l {
		if l[i] {
			n.SetBit(n, i, 1)
		}
	}
	return bytesOf(n)
}

// changed tells by the great number the block with the bit i set, or not, as it is, if there is no such bit.
func changed(b api.Block, i int, on bool) api.Block {
	if i < 0 || i >= all {
		return b
	}
	n, v := whole(b), uint(0)
	if on {
		v = 1
	}
	return bytesOf(n.SetBit(n, i, v))
}

// upTo tells n as the chapter counts it.
func upTo(n int) int {
	if n < 0 {
		return 0
	}
	if n > all {
		return all
	}
	return n
}

// Promise 4.1: of each bit, and of numbers that are none.
func TestHas(t *testing.T) {
	for k, b := range blocks() {
		kept, bits := b, row(b)
		for _, i := range numbers() {
			want := i >= 0 && i < all && bits[i]
			if got := chart.Has(b, i); got != want {
				t.Errorf("block %d: Has of %d: %v, want %v", k, i, got, want)
			}
		}
		if b != kept {
			t.Errorf("block %d: Has changed what was handed in", k)
		}
	}
}

// Promise 4.1: which bit of which byte it is, by hand.
func TestHasByHand(t *testing.T) {
	for _, c := range []struct {
		b    api.Block
		i    int
		want bool
	}{
		{api.Block{1}, 0, true}, {api.Block{1}, 1, false}, {api.Block{1}, 7, false}, {api.Block{1}, 8, false},
		{api.Block{0x80}, 7, true}, {api.Block{0x80}, 0, false}, {api.Block{0, 1}, 8, true}, {api.Block{0, 1}, 0, false}, {api.Block{0, 2}, 9, true},
		{api.Block{255: 0x80}, 2047, true}, {api.Block{255: 0x80}, 2046, false}, {api.Block{255: 0x40}, 2046, true}, {api.Block{255: 1}, 2040, true},
		{filled(0xff), 2047, true}, {filled(0xff), 2048, false}, {filled(0xff), -1, false}, {filled(0xff), -8, false}, {filled(0xff), math.MinInt, false}, {filled(0xff), math.MaxInt, false},
	} {
		if got := chart.Has(c.b, c.i); got != c.want {
			t.Errorf("Has of %d in %v: %v, want %v", c.i, c.b, got, c.want)
		}
	}
}

// Promise 4.1: each bit set, and not, whatever it was; the block as it is, if there is no such bit.
func TestWith(t *testing.T) {
	for k, b := range blocks() {
		kept := b
		for _, i := range numbers() {
			for _, on := range []bool{false, true} {
				if got := chart.With(b, i, on); got != changed(b, i, on) {
					t.Fatalf("block %d: With %d %v", k, i, on)
				}
			}
		}
		if b != kept {
			t.Errorf("block %d: With changed what was handed in", k)
		}
	}
}

// Promise 4.1: by hand.
func TestWithByHand(t *testing.T) {
	full := filled(0xff)
	for _, c := range []struct {
		b    api.Block
		i    int
		on   bool
		want api.Block
	}{
		{api.Block{}, 0, true, api.Block{1}}, {api.Block{}, 7, true, api.Block{0x80}}, {api.Block{}, 8, true, api.Block{0, 1}}, {api.Block{}, 2047, true, api.Block{255: 0x80}},
		{api.Block{}, 0, false, api.Block{}}, {api.Block{5}, 0, true, api.Block{5}}, {api.Block{5}, 0, false, api.Block{4}}, {api.Block{5}, 1, true, api.Block{7}}, {api.Block{5}, 1, false, api.Block{5}},
		{api.Block{}, -1, true, api.Block{}}, {api.Block{}, 2048, true, api.Block{}}, {full, -1, false, full}, {full, 2048, false, full}, {full, math.MinInt, false, full}, {full, math.MaxInt, false, full},
	} {
		if got := chart.With(c.b, c.i, c.on); got != c.want {
			t.Errorf("With %d %v of %v: %v, want %v", c.i, c.on, c.b, got, c.want)
		}
	}
}

// Promise 4.2: how many are set, below numbers of all kinds.
func TestCount(t *testing.T) {
	for k, b := range blocks() {
		kept, bits := b, row(b)
		for _, n := range numbers() {
			want := 0
			for i := range upTo(n) {
				if bits[i] {
					want++
				}
			}
			if got := chart.Count(b, n); got != want {
				t.Errorf("block %d: Count of the first %d: %d, want %d", k, n, got, want)
			}
		}
		if b != kept {
			t.Errorf("block %d: Count changed what was handed in", k)
		}
	}
}

// Promise 4.2: which are set, below numbers of all kinds.
func TestSet(t *testing.T) {
	for k, b := range blocks() {
		kept, bits := b, row(b)
		for _, n := range numbers() {
			var want []int
			for i := range upTo(n) {
				if bits[i] {
					want = append(want, i)
				}
			}
			if got := chart.Set(b, n); !slices.Equal(got, want) {
				t.Errorf("block %d: Set of the first %d: %v, want %v", k, n, got, want)
			}
		}
		if b != kept {
			t.Errorf("block %d: Set changed what was handed in", k)
		}
	}
}

// Promise 4.2: by hand.
func TestCountAndSetByHand(t *testing.T) {
	for _, c := range []struct {
		b    api.Block
		n    int
		want []int
	}{
		{api.Block{}, all, nil}, {api.Block{5}, 0, nil}, {api.Block{5}, -1, nil}, {filled(0xff), 0, nil}, {filled(0xff), -1, nil}, {filled(0xff), math.MinInt, nil},
		{api.Block{5}, 1, []int{0}}, {api.Block{5}, 2, []int{0}}, {api.Block{5}, 3, []int{0, 2}}, {api.Block{5}, 8, []int{0, 2}},
		{api.Block{0x81, 0x03}, 7, []int{0}}, {api.Block{0x81, 0x03}, 8, []int{0, 7}}, {api.Block{0x81, 0x03}, 9, []int{0, 7, 8}}, {api.Block{0x81, 0x03}, 10, []int{0, 7, 8, 9}}, {api.Block{0x81, 0x03}, all, []int{0, 7, 8, 9}},
		{api.Block{255: 0xc0}, 2046, nil}, {api.Block{255: 0xc0}, 2047, []int{2046}}, {api.Block{255: 0xc0}, 2048, []int{2046, 2047}}, {api.Block{255: 0xc0}, 2049, []int{2046, 2047}}, {api.Block{255: 0xc0}, math.MaxInt, []int{2046, 2047}},
	} {
		if got := chart.Set(c.b, c.n); !slices.Equal(got, c.want) {
			t.Errorf("Set of the first %d of %v: %v, want %v", c.n, c.b, got, c.want)
		}
		if got := chart.Count(c.b, c.n); got != len(c.want) {
			t.Errorf("Count of the first %d of %v: %d, want %d", c.n, c.b, got, len(c.want))
		}
	}
	if got := chart.Count(filled(0xff), all+1); got != all {
		t.Errorf("Count of ones: %d, want %d", got, all)
	}
}

// Promise 4.2: the least bit that is not set, from and below numbers of all kinds.
func TestFirst(t *testing.T) {
	numbers := append(edges(), 100, 101, 127, 128, 129, 800, 801, 804, 1500)
	for k, b := range blocks() {
		kept, bits := b, row(b)
		for _, from := range numbers {
			for _, n := range numbers {
				want, ok := 0, false
				for i := upTo(n) - 1; i >= upTo(from); i-- {
					if !bits[i] {
						want, ok = i, true
					}
				}
				if got, is := chart.First(b, from, n); got != want || is != ok {
					t.Errorf("block %d: First from %d below %d: %d %v, want %d %v", k, from, n, got, is, want, ok)
				}
			}
		}
		if b != kept {
			t.Errorf("block %d: First changed what was handed in", k)
		}
	}
}

// Promise 4.2 and the chapter's example 2.
func TestFirstByHand(t *testing.T) {
	full := filled(0xff)
	last := full
	last[255] = 0x7f
	for _, c := range []struct {
		b       api.Block
		from, n int
		want    int
		ok      bool
	}{
		{chart.Make([]int{0, 1}), 0, 3, 2, true},
		{chart.Make([]int{0, 1}), 0, 2, 0, false}, {chart.Make([]int{0, 1}), -5, 3, 2, true}, {chart.Make([]int{0, 1}), math.MinInt, 3, 2, true}, {chart.Make([]int{0, 1}), 1, 3, 2, true}, {chart.Make([]int{0, 1}), 2, 3, 2, true}, {chart.Make([]int{0, 1}), 3, 3, 0, false},
		{api.Block{}, 0, 1, 0, true}, {api.Block{}, 0, 0, 0, false}, {api.Block{}, 0, -1, 0, false}, {api.Block{}, -2, -1, 0, false}, {api.Block{}, -1, 0, 0, false}, {api.Block{}, 5, 4, 0, false}, {api.Block{}, 5, 5, 0, false}, {api.Block{}, 5, 6, 5, true},
		{api.Block{}, 2047, 2048, 2047, true}, {api.Block{}, 2048, 2049, 0, false}, {api.Block{}, 2047, math.MaxInt, 2047, true}, {api.Block{}, 2048, math.MaxInt, 0, false}, {api.Block{}, math.MaxInt, math.MaxInt, 0, false}, {api.Block{}, math.MaxInt - 1, math.MaxInt, 0, false},
		{api.Block{0xff, 0x01}, 0, all, 9, true}, {api.Block{0x7f}, 0, all, 7, true}, {api.Block{0x7f}, 8, all, 8, true},
		{full, 0, all, 0, false}, {full, 0, all + 1, 0, false}, {full, 0, math.MaxInt, 0, false}, {full, math.MinInt, math.MaxInt, 0, false},
		{last, 0, 2047, 0, false}, {last, 0, 2048, 2047, true}, {last, -1, math.MaxInt, 2047, true},
	} {
		if got, ok := chart.First(c.b, c.from, c.n); got != c.want || ok != c.ok {
			t.Errorf("First from %d below %d of %v: %d %v, want %d %v", c.from, c.n, c.b, got, ok, c.want, c.ok)
		}
	}
}

// Promise 4.1: lists of bits in any order, some more than once, with numbers that are none.
func TestMake(t *testing.T) {
	for seed := range int64(100) {
		r := rand.New(rand.NewSource(seed))
		var l []int
		for range r.Intn(300) {
			l = append(l, r.Intn(all), edges()[r.Intn(len(edges()))], r.Intn(all+20)-10)
		}
		kept, bits := slices.Clone(l), make([]bool, all)
		for _, i := range l {
			if i >= 0 && i < all {
				bits[i] = true
			}
		}
		if chart.Make(l) != block(bits) {
			t.Errorf("Make of %v", l)
		}
		if !slices.Equal(l, kept) {
			t.Error("Make changed what was handed in")
		}
	}
}

// Promise 4.1, R3 and the chapter's example 1.
func TestMakeByHand(t *testing.T) {
	every := make([]int, all)
	for i := range every {
		every[i] = i
	}
	for _, c := range []struct {
		l    []int
		want api.Block
	}{
		{[]int{0, 9}, api.Block{1, 2}}, {[]int{9, 0}, api.Block{1, 2}}, {[]int{9, 0, 9, 9, 0}, api.Block{1, 2}},
		{nil, api.Block{}}, {[]int{}, api.Block{}}, {[]int{7}, api.Block{0x80}}, {[]int{2047}, api.Block{255: 0x80}},
		{[]int{-1, 2048, math.MinInt, math.MaxInt, -8, 4096}, api.Block{}}, {[]int{-1, 0, 2048, 9, math.MaxInt}, api.Block{1, 2}},
		{every, filled(0xff)},
	} {
		if got := chart.Make(c.l); got != c.want {
			t.Errorf("Make of %v: %v, want %v", c.l, got, c.want)
		}
	}
}

// Promise 4.3: the byte of each bit, at its place, changed or not; the zero patch, if there is no such bit.
func TestPatch(t *testing.T) {
	for k, b := range blocks() {
		kept := b
		for _, i := range numbers() {
			for _, on := range []bool{false, true} {
				want := api.Patch{}
				if i >= 0 && i < all {
					want = api.Patch{At: i / 8, Data: []byte{changed(b, i, on)[i/8]}}
				}
				if got := chart.Patch(b, i, on); got.At != want.At || !slices.Equal(got.Data, want.Data) {
					t.Fatalf("block %d: Patch of %d %v: %v, want %v", k, i, on, got, want)
				}
			}
		}
		if b != kept {
			t.Errorf("block %d: Patch changed what was handed in", k)
		}
	}
}

// Promise 4.3: by hand.
func TestPatchByHand(t *testing.T) {
	for _, c := range []struct {
		b    api.Block
		i    int
		on   bool
		at   int
		data []byte
	}{
		{api.Block{}, 0, true, 0, []byte{1}}, {api.Block{}, 0, false, 0, []byte{0}}, {api.Block{}, 8, true, 1, []byte{1}}, {api.Block{7, 8}, 8, true, 1, []byte{9}}, {api.Block{7, 8}, 0, true, 0, []byte{7}}, {api.Block{7, 8}, 0, false, 0, []byte{6}}, {api.Block{7, 8}, 7, true, 0, []byte{0x87}},
		{api.Block{}, 2047, true, 255, []byte{0x80}}, {filled(0xff), 2047, false, 255, []byte{0x7f}}, {filled(0xff), 2047, true, 255, []byte{0xff}},
		{filled(0xff), -1, false, 0, nil}, {filled(0xff), 2048, false, 0, nil}, {filled(0xff), -8, true, 0, nil}, {filled(0xff), math.MinInt, true, 0, nil}, {filled(0xff), math.MaxInt, true, 0, nil},
	} {
		if got := chart.Patch(c.b, c.i, c.on); got.At != c.at || !slices.Equal(got.Data, c.data) {
			t.Errorf("Patch of %d %v of %v: %v, want %d %v", c.i, c.on, c.b, got, c.at, c.data)
		}
	}
}

// Promises 4.2 and 4.3, with R4: what is told is new each time.
func TestAnswersAreNew(t *testing.T) {
	b := filled(0xaa)
	one, two := chart.Set(b, all), chart.Set(b, all)
	for k := range one[:cap(one)] {
		one[:cap(one)][k] = -1
	}
	if again := chart.Set(b, all); !slices.Equal(two, again) || two[0] != 1 {
		t.Error("two answers of Set share:", two)
	}
	p, q := chart.Patch(b, 0, true), chart.Patch(b, 0, true)
	p.Data[0] = 7
	if again := chart.Patch(b, 0, true); q.Data[0] != 0xab || again.Data[0] != 0xab || b != filled(0xaa) {
		t.Error("two answers of Patch share:", q, again)
	}
}

// Promise 4.4: bits that are set, or not, one after the other, stand as they were set last, and no other one is changed.
func TestSetOneAfterTheOther(t *testing.T) {
	for k, b := range blocks() {
		r, bits := rand.New(rand.NewSource(int64(k))), row(b)
		for step := range 2000 {
			i, on := r.Intn(all), r.Intn(2) == 0
			if step%3 == 0 {
				i %= 24 // so that some are met again and again
			}
			p, next := chart.Patch(b, i, on), chart.With(b, i, on)
			b[p.At] = p.Data[0]
			if b != next {
				t.Fatalf("block %d: Patch of %d %v is not what With makes", k, i, on)
			}
			bits[i] = on
			if b != block(bits) || chart.Has(b, i) != on {
				t.Fatalf("block %d: With %d %v at step %d", k, i, on, step)
			}
		}
	}
}

// Promise 4.4: Count and Set tell as many, which Has tells too, and Make makes the same bits of them.
func TestAsManyAreCounted(t *testing.T) {
	for k, b := range blocks() {
		for _, n := range numbers() {
			l := chart.Set(b, n)
			if got := chart.Count(b, n); got != len(l) {
				t.Errorf("block %d: Count of the first %d: %d, but Set tells %d", k, n, got, len(l))
			}
			for at, i := range l {
				if !chart.Has(b, i) || i >= n || at > 0 && l[at-1] >= i {
					t.Errorf("block %d: Set of the first %d tells %d", k, n, i)
				}
			}
		}
		if chart.Make(chart.Set(b, all)) != b {
			t.Errorf("block %d: Make of Set is another block", k)
		}
	}
}

// Promise 4.4: between from and First all are set, and First is not; without a First all are set as far as n.
func TestAllBeforeFirstAreSet(t *testing.T) {
	for k, b := range blocks() {
		for _, from := range edges() {
			for _, n := range edges() {
				to, ok := chart.First(b, from, n)
				if !ok {
					to = upTo(n)
				} else if chart.Has(b, to) || to < from || to >= n || to >= all {
					t.Errorf("block %d: First from %d below %d: %d", k, from, n, to)
				}
				for i := upTo(from); i < to; i++ {
					if !chart.Has(b, i) {
						t.Fatalf("block %d: First from %d below %d: %d %v, but %d is not set", k, from, n, to, ok, i)
					}
				}
			}
		}
	}
}

// Promise 4.4: when what First tells is set, time and again, all are set in the end, each just once.
func TestFirstTakesAll(t *testing.T) {
	for k, b := range blocks() {
		left := all - chart.Count(b, all)
		i, ok := chart.First(b, 0, all)
		for ; ok && left > 0; left-- {
			b = chart.With(b, i, true)
			i, ok = chart.First(b, i, all)
		}
		if left != 0 || ok || b != filled(0xff) {
			t.Errorf("block %d: %d are left, and First tells %d %v", k, left, i, ok)
		}
	}
}

// Promise P1: every call ends and none panics, whatever the numbers are together.
func TestAnyArguments(t *testing.T) {
	long := make([]int, 0, 100000)
	for i := range cap(long) {
		long = append(long, i*i-all)
	}
	for _, b := range []api.Block{{}, filled(0xff), noise(7, 2)} {
		for _, i := range numbers() {
			chart.Has(b, i)
			chart.Count(b, i)
			chart.Set(b, i)
			for _, on := range []bool{false, true} {
				chart.With(b, i, on)
				chart.Patch(b, i, on)
			}
			for _, n := range edges() {
				chart.First(b, i, n)
				chart.First(b, n, i)
				chart.Make([]int{i, n})
			}
		}
	}
	if got := chart.Make(long); got == (api.Block{}) || got == filled(0xff) {
		t.Error("a long list:", got)
	}
}
