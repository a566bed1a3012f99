package patch_test

import (
	"bytes"
	"math"
	"math/rand"
	"slices"
	"testing"

	"escheat/api"
	"escheat/patch"
)

const all = 256 // bytes of a block

func of(at int, data ...byte) api.Patch {
	return api.Patch{At: at, Data: data}
}

// run tells n bytes from v on, none of which is as the one beside it.
func run(n int, v byte) []byte {
	l := make([]byte, n)
	for i := range l {
		l[i] = v + byte(i)
	}
	return l
}

func filled(v byte) api.Block {
	b := api.Block{}
	for at := range b {
		b[at] = v
	}
	return b
}

// noise tells a block of which about every part-th byte is no nought, always the same of the same numbers.
func noise(seed int64, part int) api.Block {
	r, b := rand.New(rand.NewSource(seed)), api.Block{}
	for at := range b {
		if r.Intn(part) == 0 {
			b[at] = byte(1 + r.Intn(255))
		}
	}
	return b
}

// blocks are of noughts, of ones, of one byte, of runs, and of noise.
func blocks() []api.Block {
	l := []api.Block{{}, filled(0xff), filled(1), {1}, {255: 1}, {100: 7}, {3: 7, 4: 7, 9: 7}, api.Block(run(all, 0)), api.Block(run(all, 1)), {0: 1, 255: 1}, {1: 1, 254: 1}}
	half := api.Block{}
	copy(half[128:], run(128, 1))
	l = append(l, half)
	for _, part := range []int{1, 2, 3, 10, 100} {
		l = append(l, noise(int64(part), part), noise(int64(-part), part))
	}
	return l
}

// good are patches that may be: at, and of as many bytes as, the edges of a block.
func good() []api.Patch {
	var l []api.Patch
	for _, at := range []int{0, 1, 2, 3, 7, 8, 64, 100, 127, 128, 129, 200, 252, 253, 254, 255} {
		for _, n := range []int{1, 2, 3, 4, 8, 36, 63, 100, 127, 128, 129, 254, 255, 256} {
			if at+n <= all {
				l = append(l, of(at, run(n, byte(at+n))...))
			}
		}
		l = append(l, of(at, run(all-at, 9)...))
	}
	return l
}

// wrong are patches that may not be: without bytes, ahead of a block, behind it, or past its end.
func wrong() []api.Patch {
	var l []api.Patch
	for _, at := range []int{math.MinInt, math.MinInt + 1, math.MinInt + 256, math.MinInt32, -65536, -512, -257, -256, -255, -2, -1, 256, 257, 511, 512, 65536, math.MaxInt32, 1 << 32, 1<<32 + 1, 1 << 62, math.MaxInt - 257, math.MaxInt - 256, math.MaxInt - 255, math.MaxInt - 1, math.MaxInt} {
		for _, n := range []int{0, 1, 2, 255, 256, 257, 512, 1000} {
			l = append(l, of(at, run(n, 5)...))
		}
	}
	for _, at := range []int{0, 1, 2, 3, 127, 128, 129, 253, 254, 255} {
		l = append(l, api.Patch{At: at}, of(at, []byte{}...), api.Patch{At: at, Data: []byte{}})
		for _, n := range []int{257 - at, 258 - at, 257, 258, 512, 513, 1000, 65536} {
			l = append(l, of(at, run(n, 6)...))
		}
	}
	return l
}

func patches() []api.Patch {
	return append(good(), wrong()...)
}

func copied(l []api.Patch) []api.Patch {
	kept := slices.Clone(l)
	for i := range kept {
		kept[i].Data = slices.Clone(l[i].Data)
	}
	return kept
}

func alike(p, q api.Patch) bool {
	return p.At == q.At && slices.Equal(p.Data, q.Data)
}

func allAlike(l, m []api.Patch) bool {
	return slices.EqualFunc(l, m, alike)
}

// places tells of each byte of a block whether a patch that may be has it; none of one that may not.
func places(p api.Patch) [all]bool {
	var l [all]bool
	if p.At < 0 || p.At > 255 || len(p.Data) == 0 || len(p.Data) > 256 || p.At+len(p.Data) > 256 {
		return l
	}
	for at := range l {
		l[at] = at >= p.At && at-p.At < len(p.Data)
	}
	return l
}

// laid tells byte by byte what Lay ought to.
func laid(b api.Block, p api.Patch) api.Block {
	l, n := b, places(p)
	for at := range l {
		if n[at] {
			l[at] = p.Data[at-p.At]
		}
	}
	return l
}

// diff tells what Diff ought to: each unlike byte goes on with the patch of the byte ahead of it, if that has one.
func diff(a, b api.Block) []api.Patch {
	var l []api.Patch
	for at := range a {
		switch {
		case a[at] == b[at]:
		case at > 0 && a[at-1] != b[at-1]:
			l[len(l)-1].Data = append(l[len(l)-1].Data, b[at])
		default:
			l = append(l, of(at, b[at]))
		}
	}
	return l
}

// Promise 7.1: each place with each length, on a block and around it.
func TestCheckOfAll(t *testing.T) {
	long := make([]byte, 600)
	for at := -300; at <= 600; at++ {
		for n := range 600 {
			want := api.ErrRange
			if at >= 0 && at <= 255 && n >= 1 && at+n <= 256 {
				want = api.OK
			}
			if got := patch.Check(api.Patch{At: at, Data: long[:n]}); got != want {
				t.Fatalf("Check of %d bytes at %d: %v, want %v", n, at, got, want)
			}
		}
	}
}

// Promise 7.1: patches at the edges of a block, and of what an int can have.
func TestCheck(t *testing.T) {
	for _, p := range good() {
		if got := patch.Check(p); got != api.OK {
			t.Errorf("Check of %d bytes at %d: %v", len(p.Data), p.At, got)
		}
	}
	for _, p := range wrong() {
		if got := patch.Check(p); got != api.ErrRange {
			t.Errorf("Check of %d bytes at %d: %v", len(p.Data), p.At, got)
		}
	}
	if got := patch.Check(api.Patch{}); got != api.ErrRange {
		t.Errorf("Check of the zero patch: %v", got)
	}
}

// Promise 7.1: the patch's bytes at their places, and all others as they were; the block as it is, if the patch may not be.
func TestLay(t *testing.T) {
	for k, b := range blocks() {
		kept := b
		for _, p := range patches() {
			data := slices.Clone(p.Data)
			if got := patch.Lay(b, p); got != laid(b, p) {
				t.Errorf("block %d: Lay of %d bytes at %d", k, len(p.Data), p.At)
			}
			if !bytes.Equal(p.Data, data) {
				t.Errorf("block %d: Lay changed the patch", k)
			}
		}
		if b != kept {
			t.Errorf("block %d: Lay changed what was handed in", k)
		}
	}
}

// Promise 7.1: by hand.
func TestLayByHand(t *testing.T) {
	full := filled(0xff)
	for _, c := range []struct {
		b    api.Block
		p    api.Patch
		want api.Block
	}{
		{api.Block{}, of(0, 1, 2), api.Block{1, 2}}, {api.Block{9, 9, 9}, of(1, 0), api.Block{9, 0, 9}}, {api.Block{9, 9, 9}, of(1, 9), api.Block{9, 9, 9}},
		{api.Block{}, of(255, 7), api.Block{255: 7}}, {api.Block{}, of(254, 7, 8), api.Block{254: 7, 255: 8}}, {full, of(0, make([]byte, 256)...), api.Block{}}, {api.Block{}, of(0, run(256, 3)...), api.Block(run(256, 3))},
		{full, of(254, 7, 8, 9), full}, {full, of(255, 7, 8), full}, {full, of(256, 7), full}, {full, of(-1, 7), full}, {full, of(-1, 7, 8), full}, {full, of(3), full}, {full, of(0, make([]byte, 257)...), full}, {full, api.Patch{}, full}, {full, of(math.MaxInt, 1), full}, {full, of(math.MinInt, 1), full},
	} {
		if got := patch.Lay(c.b, c.p); got != c.want {
			t.Errorf("Lay of %v: %v, want %v", c.p, got, c.want)
		}
	}
}

// Promise 7.1 and R3: patches one behind the other, some that meet, and some that may not be.
func TestAllByHand(t *testing.T) {
	full := filled(0xff)
	for _, c := range []struct {
		b    api.Block
		l    []api.Patch
		want api.Block
	}{
		{full, nil, full}, {full, []api.Patch{}, full}, {full, []api.Patch{{}, of(-1, 3), of(256, 3)}, full},
		{api.Block{}, []api.Patch{of(0, 1, 2, 3)}, api.Block{1, 2, 3}},
		{api.Block{}, []api.Patch{of(0, 1, 2, 3), of(1, 9)}, api.Block{1, 9, 3}}, {api.Block{}, []api.Patch{of(1, 9), of(0, 1, 2, 3)}, api.Block{1, 2, 3}},
		{api.Block{}, []api.Patch{of(0, 1), of(255, 2, 3), of(1, 2), of(0), of(2, 3)}, api.Block{1, 2, 3}},
		{api.Block{}, []api.Patch{of(5, 1), of(5, 2), of(5, 3)}, api.Block{5: 3}}, {full, []api.Patch{of(0, make([]byte, 256)...), of(255, 4)}, api.Block{255: 4}},
	} {
		if got := patch.All(c.b, c.l); got != c.want {
			t.Errorf("All of %v: %v, want %v", c.l, got, c.want)
		}
	}
}

// some tells up to 30 of the patches, in any order, always the same of the same seed.
func some(seed int64) []api.Patch {
	r, l := rand.New(rand.NewSource(seed)), patches()
	r.Shuffle(len(l), func(i, k int) { l[i], l[k] = l[k], l[i] })
	return l[:r.Intn(31)]
}

// Promise 7.1 and R4: lists of any patches, in order.
func TestAll(t *testing.T) {
	for seed := range int64(100) {
		l := some(seed)
		kept := copied(l)
		for k, b := range blocks() {
			block, want := b, b
			for _, p := range l {
				want = laid(want, p)
			}
			if got := patch.All(b, l); got != want {
				t.Errorf("block %d: All of the list %d", k, seed)
			}
			if b != block {
				t.Errorf("block %d: All changed what was handed in", k)
			}
		}
		if !allAlike(l, kept) {
			t.Errorf("All changed the list %d", seed)
		}
	}
}

// Promise 7.1 and R3: all pairs, those that may not be, too.
func TestSame(t *testing.T) {
	l := append(patches(), of(3, 1, 2), of(3, 1, 2), of(3, 1, 3), of(4, 1, 2), of(3, 1), of(-1, 1), of(-1, 1), of(-1, 2), of(-1), api.Patch{At: -1})
	for _, p := range l {
		for _, q := range l {
			if got := patch.Same(p, q); got != alike(p, q) {
				t.Errorf("Same of %d bytes at %d and %d bytes at %d: %v", len(p.Data), p.At, len(q.Data), q.At, got)
			}
		}
	}
}

// Promise 7.1: by hand.
func TestSameByHand(t *testing.T) {
	for _, c := range []struct {
		p, q api.Patch
		want bool
	}{
		{api.Patch{}, api.Patch{}, true}, {api.Patch{}, api.Patch{Data: []byte{}}, true}, {of(7), api.Patch{At: 7, Data: []byte{}}, true}, {api.Patch{At: -1}, api.Patch{At: -1, Data: []byte{}}, true}, {api.Patch{At: 1}, api.Patch{At: 2}, false},
		{of(3, 1, 2), of(3, 1, 2), true}, {of(3, 1, 2), of(3, 1), false}, {of(3, 1), of(3, 1, 2), false}, {of(3, 1, 2), of(3, 2, 1), false}, {of(3, 1, 2), of(4, 1, 2), false}, {of(3, 0), of(3), false}, {of(0), of(0, 0), false},
		{of(-1, 5), of(-1, 5), true}, {of(-1, 5), of(-2, 5), false}, {of(256, 5), of(256, 5), true}, {of(math.MaxInt, 5), of(math.MaxInt, 5), true}, {of(math.MaxInt, 5), of(math.MinInt, 5), false}, {of(0, 5), of(256, 5), false}, {of(0, make([]byte, 300)...), of(0, make([]byte, 300)...), true}, {of(0, make([]byte, 300)...), of(0, make([]byte, 301)...), false},
	} {
		if got := patch.Same(c.p, c.q); got != c.want {
			t.Errorf("Same of %v and %v: %v", c.p, c.q, got)
		}
	}
}

// Promise 7.2: all pairs; none meets one that may not be, not even itself.
func TestMeet(t *testing.T) {
	l := patches()
	var in [][all]bool
	for _, p := range l {
		in = append(in, places(p))
	}
	for i, p := range l {
		for k, q := range l {
			want := false
			for at := range all {
				want = want || in[i][at] && in[k][at]
			}
			if got := patch.Meet(p, q); got != want {
				t.Fatalf("Meet of %d bytes at %d and %d bytes at %d: %v", len(p.Data), p.At, len(q.Data), q.At, got)
			}
		}
	}
}

// Promise 7.2 and the chapter's example 2.
func TestMeetByHand(t *testing.T) {
	for _, c := range []struct {
		p, q api.Patch
		want bool
	}{
		{of(3, 1, 1), of(5, 1, 1), false},
		{of(3, 1, 1), of(4, 1, 1), true}, {of(3, 1, 1), of(3, 1, 1), true}, {of(3, 1, 1), of(2, 1), false}, {of(3, 1, 1), of(2, 1, 1), true}, {of(3, 1, 1), of(3, 2), true}, {of(3, 1, 1), of(4, 2), true}, {of(3, 1, 1), of(0, run(256, 0)...), true},
		{of(255, 1), of(255, 2), true}, {of(255, 1), of(254, 2), false}, {of(255, 1), of(0, 2), false}, {of(0, run(255, 0)...), of(255, 1), false}, {of(0, 1), of(0, 1), true},
		{api.Patch{}, api.Patch{}, false}, {of(3), of(3), false}, {of(3), of(2, 1, 1, 1), false}, {of(-1, 1, 1), of(0, 1), false}, {of(-1, 1, 1), of(-1, 1, 1), false}, {of(255, 1, 1), of(255, 1), false}, {of(256, 1), of(256, 1), false}, {of(0, make([]byte, 257)...), of(7, 1), false}, {of(math.MaxInt, 1), of(math.MaxInt, 1), false}, {of(math.MinInt, 1), of(0, 1), false}, {of(math.MaxInt, 1), of(0, 1), false},
	} {
		if got := patch.Meet(c.p, c.q); got != c.want {
			t.Errorf("Meet of %v and %v: %v", c.p, c.q, got)
		}
		if got := patch.Meet(c.q, c.p); got != c.want {
			t.Errorf("Meet of %v and %v: %v", c.q, c.p, got)
		}
	}
}

// Promise 7.2, R4 and R5: the block's bytes at the patch's place, as new memory; the zero patch, if there is no such place.
func TestWas(t *testing.T) {
	for k, b := range blocks() {
		kept := b
		for _, p := range patches() {
			data, want := slices.Clone(p.Data), api.Patch{}
			for at, in := range places(p) {
				if in {
					want.At = p.At
					want.Data = append(want.Data, b[at])
				}
			}
			got := patch.Was(b, p)
			if !alike(got, want) {
				t.Fatalf("block %d: Was of %d bytes at %d: %v, want %v", k, len(p.Data), p.At, got, want)
			}
			for i := range got.Data {
				got.Data[i]++
			}
			if !slices.Equal(p.Data, data) || !alike(patch.Was(b, p), want) {
				t.Errorf("block %d: what Was tells is no new memory", k)
			}
		}
		if b != kept {
			t.Errorf("block %d: Was changed what was handed in", k)
		}
	}
}

// Promise 7.2: by hand.
func TestWasByHand(t *testing.T) {
	b := api.Block{1, 2, 3, 254: 8, 255: 9}
	for _, c := range []struct{ p, want api.Patch }{
		{of(0, 7), of(0, 1)}, {of(1, 7, 7), of(1, 2, 3)}, {of(2, 7, 7), of(2, 3, 0)}, {of(254, 7, 7), of(254, 8, 9)}, {of(255, 9), of(255, 9)}, {of(0, make([]byte, 256)...), of(0, b[:]...)},
		{of(255, 9, 9), api.Patch{}}, {of(1), api.Patch{}}, {of(-1, 9, 9), api.Patch{}}, {of(256, 9), api.Patch{}}, {of(0, make([]byte, 257)...), api.Patch{}}, {of(math.MaxInt, 9), api.Patch{}}, {of(math.MinInt, 9), api.Patch{}}, {api.Patch{}, api.Patch{}},
	} {
		if got := patch.Was(b, c.p); !alike(got, c.want) {
			t.Errorf("Was of %v: %v, want %v", c.p, got, c.want)
		}
	}
}

// Promise 7.2 and R3: by hand.
func TestBytesByHand(t *testing.T) {
	for _, c := range []struct {
		l    []api.Patch
		want int
	}{
		{nil, 0}, {[]api.Patch{}, 0}, {[]api.Patch{{}}, 0}, {[]api.Patch{of(0, 0)}, 1}, {[]api.Patch{of(255, 1)}, 1}, {[]api.Patch{of(3, 1, 1)}, 2},
		{[]api.Patch{of(3, 1, 1), of(5, 1, 1)}, 4}, {[]api.Patch{of(3, 1, 1), of(4, 1, 1)}, 3}, {[]api.Patch{of(3, 1, 1), of(3, 1, 1)}, 2}, {[]api.Patch{of(3, 1, 1), of(4, 1)}, 2}, {[]api.Patch{of(4, 1), of(3, 1, 1), of(4, 2)}, 2},
		{[]api.Patch{of(0, make([]byte, 256)...)}, 256}, {[]api.Patch{of(0, make([]byte, 256)...), of(7, 1), of(0, make([]byte, 256)...)}, 256}, {[]api.Patch{of(0, make([]byte, 128)...), of(128, make([]byte, 128)...)}, 256},
		{[]api.Patch{of(255, 1, 1), of(256, 1), of(-1, 1), of(-1, 1, 1), of(5), of(0, make([]byte, 257)...), of(math.MaxInt, 1), of(math.MinInt, 1)}, 0}, {[]api.Patch{of(255, 1, 1), of(254, 1, 1), of(3), of(3, 1)}, 3},
	} {
		if got := patch.Bytes(c.l); got != c.want {
			t.Errorf("Bytes of %v: %d, want %d", c.l, got, c.want)
		}
	}
}

// Promise 7.2: lists of any patches, long and short ones.
func TestBytes(t *testing.T) {
	for seed := range int64(300) {
		l, r := some(seed), rand.New(rand.NewSource(seed))
		for range r.Intn(60) {
			l = append(l, of(r.Intn(300)-20, run(r.Intn(8), 0)...))
		}
		kept, want := copied(l), 0
		var in [all]bool
		for _, p := range l {
			for at, is := range places(p) {
				in[at] = in[at] || is
			}
		}
		for _, is := range in {
			if is {
				want++
			}
		}
		if got := patch.Bytes(l); got != want {
			t.Errorf("Bytes of the list %d: %d, want %d", seed, got, want)
		}
		if !allAlike(l, kept) {
			t.Error("Bytes changed what was handed in")
		}
	}
}

// Promise 7.3 and the chapter's example 1.
func TestDiffByHand(t *testing.T) {
	whole := api.Block(run(256, 1))
	whole[255] = 1
	for _, c := range []struct {
		a, b api.Block
		want []api.Patch
	}{
		{api.Block{}, api.Block{3: 7, 4: 7, 9: 7}, []api.Patch{of(3, 7, 7), of(9, 7)}}, {api.Block{3: 7, 4: 7, 9: 7}, api.Block{}, []api.Patch{of(3, 0, 0), of(9, 0)}},
		{api.Block{}, api.Block{}, nil}, {whole, whole, nil}, {api.Block{}, whole, []api.Patch{of(0, whole[:]...)}}, {whole, api.Block{}, []api.Patch{of(0, make([]byte, 256)...)}},
		{api.Block{}, api.Block{5}, []api.Patch{of(0, 5)}}, {api.Block{}, api.Block{255: 5}, []api.Patch{of(255, 5)}}, {api.Block{}, api.Block{0: 5, 255: 6}, []api.Patch{of(0, 5), of(255, 6)}}, {api.Block{}, api.Block{254: 5, 255: 6}, []api.Patch{of(254, 5, 6)}}, {api.Block{}, api.Block{253: 5, 255: 6}, []api.Patch{of(253, 5), of(255, 6)}},
		{api.Block{1, 2, 3, 4}, api.Block{1, 3, 3, 5}, []api.Patch{of(1, 3), of(3, 5)}}, {api.Block{1, 2, 3, 4}, api.Block{4, 3, 2, 1}, []api.Patch{of(0, 4, 3, 2, 1)}}, {api.Block{1, 2, 3, 4}, api.Block{0, 0, 3, 0}, []api.Patch{of(0, 0, 0), of(3, 0)}}, {api.Block{0x80}, api.Block{0}, []api.Patch{of(0, 0)}},
	} {
		if got := patch.Diff(c.a, c.b); !allAlike(got, c.want) {
			t.Errorf("Diff: %v, want %v", got, c.want)
		}
	}
}

// Promise 7.3: each pattern of ten bytes, alike or not, at a block's beginning, in its midst, and at its end.
func TestDiffOfPatterns(t *testing.T) {
	for _, from := range []int{0, 1, 120, 245, 246} {
		for bits := range 1 << 10 {
			a := api.Block(run(256, 11))
			b := a
			for k := range 10 {
				if bits>>k&1 == 1 {
					b[from+k] += byte(k + 1)
				}
			}
			if got := patch.Diff(a, b); !allAlike(got, diff(a, b)) {
				t.Fatalf("Diff of the pattern %b at %d: %v, want %v", bits, from, got, diff(a, b))
			}
		}
	}
}

// Promises 7.3 and 7.4: all pairs of blocks: the patches rise, none meets or touches another one, and they lead from one block to the other.
func TestDiff(t *testing.T) {
	for i, a := range blocks() {
		for k, b := range blocks() {
			from, to := a, b
			l := patch.Diff(a, b)
			if !allAlike(l, diff(a, b)) {
				t.Errorf("Diff of blocks %d and %d: %v", i, k, l)
			}
			if patch.All(a, l) != b {
				t.Errorf("the patches of blocks %d and %d don't make the other one", i, k)
			}
			for n, p := range l {
				if n > 0 && (patch.Meet(l[n-1], p) || l[n-1].At+len(l[n-1].Data) >= p.At) {
					t.Errorf("of blocks %d and %d the patches %d and %d", i, k, n-1, n)
				}
			}
			if a != from || b != to {
				t.Error("Diff changed what was handed in")
			}
		}
	}
}

// Promise R4: no patch of a Diff shares memory with another one, not even past its end, or with another answer.
func TestDiffIsNew(t *testing.T) {
	for _, b := range blocks() {
		l, other := patch.Diff(api.Block{}, b), patch.Diff(api.Block{}, b)
		want := copied(l)
		for i := range l {
			room := l[i].Data[:cap(l[i].Data)]
			for k := range room {
				room[k] ^= 0x5a
			}
			if !allAlike(l[i+1:], want[i+1:]) {
				t.Fatalf("the patch %d shares memory with one behind it", i)
			}
		}
		for i := range l {
			for k := range l[i].Data {
				if l[i].Data[k] != want[i].Data[k]^0x5a {
					t.Fatalf("the patch %d shares memory with another one", i)
				}
			}
		}
		if !allAlike(other, want) {
			t.Fatal("two answers share memory")
		}
	}
}

// Promise 7.4: what was, laid behind a patch, takes it back.
func TestTakenBack(t *testing.T) {
	for k, b := range blocks() {
		for _, p := range patches() {
			if got := patch.Lay(patch.Lay(b, p), patch.Was(b, p)); got != b {
				t.Errorf("block %d: %d bytes at %d are not taken back", k, len(p.Data), p.At)
			}
		}
	}
}

// Promise 7.4: what was, laid in the other order, takes a whole list back.
func TestAllTakenBack(t *testing.T) {
	for seed := range int64(100) {
		b := noise(seed, 2)
		now := b
		var back []api.Patch
		for _, p := range some(seed) {
			back = append(back, patch.Was(now, p))
			now = patch.Lay(now, p)
		}
		slices.Reverse(back)
		if patch.All(now, back) != b {
			t.Errorf("the list %d is not taken back", seed)
		}
	}
}

// Promise 7.5: patches that do not meet, shuffled, with some that may not be between them.
func TestAnyOrder(t *testing.T) {
	for seed := range int64(200) {
		r, b := rand.New(rand.NewSource(seed)), noise(seed, 2)
		var l []api.Patch
		for at := r.Intn(4); at < all; at += r.Intn(4) {
			n := min(1+r.Intn(20), all-at)
			l = append(l, of(at, run(n, byte(r.Intn(256)))...))
			at += n
		}
		l = append(l, wrong()[:r.Intn(100)]...)
		for i, p := range l {
			for _, q := range l[:i] {
				if patch.Meet(p, q) {
					t.Fatalf("the list %d: %v and %v meet", seed, p, q)
				}
			}
		}
		want := patch.All(b, l)
		for range 10 {
			r.Shuffle(len(l), func(i, k int) { l[i], l[k] = l[k], l[i] })
			if patch.All(b, l) != want {
				t.Fatalf("the list %d makes another block in another order", seed)
			}
		}
	}
}

// Promise P1: long lists, and patches of many bytes, end.
func TestLongLists(t *testing.T) {
	l := make([]api.Patch, 1<<19)
	for i := range l {
		l[i] = of(i%300-20, run(i%9, byte(i))...)
	}
	want := api.Block{}
	for _, p := range l[len(l)-1000:] {
		want = laid(want, p)
	}
	if got := patch.All(api.Block{}, l); got != want {
		t.Errorf("All of a long list: %v, want %v", got, want)
	}
	if got := patch.Bytes(l); got != all {
		t.Errorf("Bytes of a long list: %d", got)
	}
	long := of(0, make([]byte, 1<<24)...)
	if patch.Check(long) != api.ErrRange || patch.Lay(want, long) != want || patch.Bytes([]api.Patch{long}) != 0 || patch.Meet(long, long) || !patch.Same(long, long) || !alike(patch.Was(want, long), api.Patch{}) {
		t.Error("a patch of many bytes")
	}
}
