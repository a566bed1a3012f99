package mix_test

import (
	"hash/fnv"
	"math"
	"math/big"
	"math/rand"
	"slices"
	"strconv"
	"strings"
	"testing"

	"escheat/mix"
)

// texts are of all kinds: empty, of one byte, with noughts, past ASCII, no UTF-8, and long.
func texts() []string {
	l := []string{"", "a", "b", "ab", "ba", "aa", "foobar", "name", "..", "/", "\x00", "\x00\x00", "a\x00", "\x00a", "\u00e9", "\u65e5\u672c", "\U0001f600", "\xff", "\xff\xfe\x80", "\xe9", "a\xc3", strings.Repeat("x", 24), strings.Repeat("\xff", 1000)}
	for k := range 256 {
		l = append(l, string([]byte{byte(k)}), string([]byte{'n', byte(k), 'm'}))
	}
	for k := range 300 {
		l = append(l, "file"+strconv.Itoa(k))
	}
	return l
}

// hashes are at the edges, with each bit alone, and scattered, always the same ones.
func hashes() []uint32 {
	l := []uint32{0, 1, 2, 5, 13, 2166136261, 16777619, math.MaxInt32, math.MaxInt32 + 1, math.MaxUint32 - 1, math.MaxUint32, 0x55555555, 0xaaaaaaaa}
	for k := range 32 {
		l = append(l, 1<<k, 1<<k-1, math.MaxUint32<<k, math.MaxUint32^1<<k)
	}
	scattered := rand.New(rand.NewSource(2))
	for range 60 {
		l = append(l, scattered.Uint32())
	}
	return l
}

// odd are counts and places of bits: all that there are, those around them, and such as would wrap round.
func odd() []int {
	l := []int{math.MinInt, math.MinInt + 1, math.MinInt + 31, math.MinInt32, -1 << 32, -256, -64, -33, -32, -31}
	for k := -9; k <= 72; k++ {
		l = append(l, k)
	}
	return append(l, 127, 128, 255, 256, 257, 1<<16, math.MaxInt32, math.MaxInt32+1, 1<<32, 1<<32+1, 1<<32+5, 1<<62, math.MaxInt-1, math.MaxInt)
}

// goOn reckons by numbers that don't wrap round, and takes the rest by 2^32 at each step.
func goOn(h uint32, s string) uint32 {
	v, whole := big.NewInt(int64(h)), new(big.Int).Lsh(big.NewInt(1), 32)
	for _, b := range []byte(s) {
		v.Xor(v, big.NewInt(int64(b)))
		v.Mul(v, big.NewInt(16777619))
		v.Mod(v, whole)
	}
	return uint32(v.Uint64())
}

// digits tells the bits of h, the lowest one ahead.
func digits(h uint32) []bool {
	var l []bool
	for v := uint64(h); len(l) < 32; v /= 2 {
		l = append(l, v%2 == 1)
	}
	return l
}

// Promise 2.1: the hash of texts of all kinds, against the library's.
func TestOf(t *testing.T) {
	for _, s := range texts() {
		f := fnv.New32a()
		f.Write([]byte(s))
		if got, want := mix.Of(s), f.Sum32(); got != want || got != goOn(2166136261, s) {
			t.Errorf("Of %q: %d, want %d", s, got, want)
		}
	}
}

// Promise 2.1 and the chapter's example 1: hashes that are known.
func TestOfByHand(t *testing.T) {
	for _, c := range []struct {
		s    string
		want uint32
	}{
		{"", 2166136261}, {"a", 0xe40c292c}, {"b", 0xe70c2de5}, {"foobar", 0xbf9cf968}, {"\x00", 0x050c5d1f},
	} {
		if got := mix.Of(c.s); got != c.want {
			t.Errorf("Of %q: %d, want %d", c.s, got, c.want)
		}
	}
}

// Promise 2.1: More goes on from any hash, nought and the greatest one too.
func TestMore(t *testing.T) {
	for _, h := range hashes() {
		if got := mix.More(h, ""); got != h {
			t.Errorf("More of %d and no text: %d", h, got)
		}
		for _, s := range texts() {
			if got, want := mix.More(h, s), goOn(h, s); got != want {
				t.Fatalf("More of %d, %q: %d, want %d", h, s, got, want)
			}
		}
	}
	if got := mix.More(0, "\x00"); got != 0 {
		t.Error("a nought onto nought:", got)
	}
	if got := mix.More(0, "\x01"); got != 16777619 {
		t.Error("one onto nought:", got)
	}
	if got := mix.More(256, "\x00"); got != 16777619*256%(1<<32) {
		t.Error("what is past 32 bits:", got)
	}
}

// Promise 2.2: the low bits, as many as are asked for, from none to all.
func TestLow(t *testing.T) {
	for _, h := range hashes() {
		set := digits(h)
		for _, bits := range odd() {
			want := 0
			for k := 0; k < bits && k < 32; k++ {
				if set[k] {
					want += 1 << k
				}
			}
			if got := mix.Low(h, bits); got != want {
				t.Errorf("Low of %d, %d bits: %d, want %d", h, bits, got, want)
			}
		}
	}
}

// Promise 2.2 and the chapter's example 2.
func TestLowByHand(t *testing.T) {
	for _, c := range []struct {
		h          uint32
		bits, want int
	}{
		{13, 3, 5}, {13, 0, 0}, {13, -1, 0}, {13, math.MinInt, 0}, {13, 1, 1}, {13, 2, 1}, {13, 4, 13}, {13, 32, 13}, {13, 64, 13}, {13, math.MaxInt, 13},
		{math.MaxUint32, 1, 1}, {math.MaxUint32, 31, 2147483647}, {math.MaxUint32, 32, 4294967295}, {math.MaxUint32, 33, 4294967295}, {math.MaxUint32, math.MaxInt, 4294967295},
		{1 << 31, 31, 0}, {1 << 31, 32, 2147483648}, {math.MaxUint32, 0, 0}, {math.MaxUint32, -32, 0},
	} {
		if got := mix.Low(c.h, c.bits); got != c.want {
			t.Errorf("Low of %d, %d bits: %d, want %d", c.h, c.bits, got, c.want)
		}
	}
}

// Promise 2.2: each bit, and none where there is none.
func TestBit(t *testing.T) {
	for _, h := range hashes() {
		set := digits(h)
		for _, i := range odd() {
			want := i >= 0 && i <= 31 && set[i]
			if got := mix.Bit(h, i); got != want {
				t.Errorf("Bit %d of %d: %v, want %v", i, h, got, want)
			}
		}
	}
	for _, i := range []int{math.MinInt, -32, -1, 32, 33, 64, 1 << 32, math.MaxInt} {
		if mix.Bit(math.MaxUint32, i) {
			t.Error("there is no bit", i)
		}
	}
	if mix.Bit(2, 0) || !mix.Bit(2, 1) || !mix.Bit(1, 0) || !mix.Bit(1<<31, 31) || mix.Bit(1<<31, 30) {
		t.Error("bits by hand")
	}
}

// Promise 2.2: how many of the lowest bits are the same, up to the first that is not.
func TestAlike(t *testing.T) {
	for _, a := range hashes() {
		for _, b := range hashes() {
			x, y, want := digits(a), digits(b), 0
			for want < 32 && x[want] == y[want] {
				want++
			}
			if got := mix.Alike(a, b); got != want || got != mix.Alike(b, a) {
				t.Errorf("Alike of %d and %d: %d, want %d", a, b, got, want)
			}
		}
	}
}

// Promise 2.2 and the chapter's example 3.
func TestAlikeByHand(t *testing.T) {
	for _, c := range []struct {
		a, b uint32
		want int
	}{
		{5, 13, 3}, {0, 0, 32}, {math.MaxUint32, math.MaxUint32, 32}, {0, math.MaxUint32, 0}, {0, 1, 0}, {0, 2, 1}, {0, 1 << 31, 31}, {6, 6, 32}, {3, 1, 1}, {0b10100, 0b00000, 2},
	} {
		if got := mix.Alike(c.a, c.b); got != c.want {
			t.Errorf("Alike of %d and %d: %d, want %d", c.a, c.b, got, c.want)
		}
	}
}

// Promise 2.3: each text goes to its side, in order, as often as it stands there; a bit that there is not is set in none.
func TestSplit(t *testing.T) {
	l := texts()
	l = append(l, l[:40]...)
	slices.Reverse(l)
	kept := slices.Clone(l)
	for _, bit := range odd() {
		var without, with []string
		for _, s := range l {
			if bit >= 0 && bit <= 31 && digits(goOn(2166136261, s))[bit] {
				with = append(with, s)
			} else {
				without = append(without, s)
			}
		}
		got, gotWith := mix.Split(l, bit)
		if !slices.Equal(got, without) || !slices.Equal(gotWith, with) {
			t.Errorf("Split at bit %d: %d and %d texts, want %d and %d", bit, len(got), len(gotWith), len(without), len(with))
		}
	}
	if !slices.Equal(l, kept) {
		t.Error("Split changed what was handed in")
	}
}

// Promise 2.3: by hand, by hashes that are known: e40c292c of a, e70c2de5 of b, 811c9dc5 of the empty text.
func TestSplitByHand(t *testing.T) {
	l := []string{"b", "a", "", "b", "a"}
	for _, c := range []struct {
		bit           int
		without, with []string
	}{
		{0, []string{"a", "a"}, []string{"b", "", "b"}},
		{1, l, nil},
		{2, nil, l},
		{3, []string{"b", "", "b"}, []string{"a", "a"}},
		{29, []string{""}, []string{"b", "a", "b", "a"}},
		{31, nil, l},
		{-1, l, nil}, {32, l, nil}, {64, l, nil}, {math.MinInt, l, nil}, {math.MaxInt, l, nil},
	} {
		without, with := mix.Split(l, c.bit)
		if !slices.Equal(without, c.without) || !slices.Equal(with, c.with) {
			t.Errorf("Split at bit %d: %q %q, want %q %q", c.bit, without, with, c.without, c.with)
		}
	}
	for _, none := range [][]string{nil, {}} {
		if without, with := mix.Split(none, 0); len(without) != 0 || len(with) != 0 {
			t.Error("none:", without, with)
		}
	}
}

// Promise 2.3, R4: the two lists are new, and share nothing with the one that was handed in, with each other, or with another answer, beyond their length too.
func TestSplitIsNew(t *testing.T) {
	for _, bit := range []int{-1, 0, 1, 31, 32} {
		room := []string{"a", "b", "c", "d", "e", "f", "g", "h"}
		kept := slices.Clone(room)
		l := room[:6]
		one, two := mix.Split(l, bit)
		first, second := slices.Clone(one), slices.Clone(two)
		for _, list := range [][]string{one, two} {
			for k := range list[:cap(list)] {
				list[:cap(list)][k] = "other"
			}
			if !slices.Equal(room, kept) {
				t.Fatalf("bit %d: what was handed in is shared: %q", bit, room)
			}
		}
		one, two = mix.Split(l, bit)
		if !slices.Equal(one, first) || !slices.Equal(two, second) {
			t.Errorf("bit %d: answers share: %q %q", bit, one, two)
		}
		for k := range one[:cap(one)] {
			one[:cap(one)][k] = "other"
		}
		if !slices.Equal(two, second) {
			t.Errorf("bit %d: the lists of one answer share: %q", bit, two)
		}
	}
}

// Promise 2.4: the hash of two texts goes on from that of the first one, wherever they are parted.
func TestHashGoesOn(t *testing.T) {
	for _, s := range texts() {
		whole := mix.Of(s)
		for k := 0; k <= len(s); k++ {
			if got := mix.More(mix.Of(s[:k]), s[k:]); got != whole {
				t.Fatalf("%q parted at %d: %d, want %d", s, k, got, whole)
			}
		}
	}
}

// Promise 2.4: two hashes have the same low bits, as many as they are alike, and no more.
func TestLowBitsOfAlike(t *testing.T) {
	for _, a := range hashes() {
		for _, b := range hashes() {
			alike := mix.Alike(a, b)
			for bits := range 33 {
				if (mix.Low(a, bits) == mix.Low(b, bits)) != (bits <= alike) {
					t.Fatalf("%d and %d: alike %d, but their low %d bits are %d and %d", a, b, alike, bits, mix.Low(a, bits), mix.Low(b, bits))
				}
			}
			if alike < 32 && mix.Bit(a, alike) == mix.Bit(b, alike) {
				t.Errorf("%d and %d have the same bit %d", a, b, alike)
			}
		}
	}
}

// Promise 2.4: what is split is all there, once.
func TestSplitIsAllThere(t *testing.T) {
	l := append(texts(), "a", "a", "", "b")
	want := slices.Sorted(slices.Values(l))
	for _, bit := range odd() {
		without, with := mix.Split(l, bit)
		for _, s := range without {
			if mix.Bit(mix.Of(s), bit) {
				t.Errorf("%q is on the wrong side of bit %d", s, bit)
			}
		}
		for _, s := range with {
			if !mix.Bit(mix.Of(s), bit) {
				t.Errorf("%q is on the wrong side of bit %d", s, bit)
			}
		}
		if !slices.Equal(slices.Sorted(slices.Values(slices.Concat(without, with))), want) {
			t.Errorf("split at bit %d: not all there, once", bit)
		}
	}
}

// Promise P1: every call ends and none panics, at all arguments.
func TestAnyArguments(t *testing.T) {
	l := texts()
	for _, n := range odd() {
		for _, h := range hashes() {
			mix.Low(h, n)
			mix.Bit(h, n)
			mix.Alike(h, uint32(n))
			mix.More(h, strconv.Itoa(n))
		}
		mix.Split(nil, n)
		mix.Split([]string{""}, n)
		mix.Split(l, n)
	}
	long := strings.Repeat("0123456789", 1<<17)
	if mix.Of(long) != mix.More(mix.Of(long[:len(long)-1]), "9") {
		t.Error("a long text")
	}
}
