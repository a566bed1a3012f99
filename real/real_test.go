package real_test

import (
	"math"
	"math/big"
	"math/rand"
	"slices"
	"testing"

	"escheat/real"
)

const (
	one     = 9221120237041090560 // the bits of what is no number
	sign    = 1 << 63
	endless = 0x7ff << 52 // the bits of the infinity above 0
)

// The edges, by the library alone.
var (
	above  = math.Inf(1)
	below  = math.Inf(-1)
	minus0 = math.Copysign(0, -1)
	nan    = math.Float64frombits(one)
)

// nones are bits of what is no number: quiet, signalling, with the sign and without, with little and with much behind.
func nones() []uint64 {
	l := []uint64{one, math.Float64bits(math.NaN())}
	for _, rest := range []uint64{1, 2, 1 << 50, 1<<51 - 1, 1 << 51, 1<<51 + 1, 1<<52 - 1} {
		l = append(l, endless|rest, sign|endless|rest)
	}
	return l
}

// rising are the bits of numbers at their edges, each in the order ahead of the next one: what is no number stands ahead of them all.
func rising() []uint64 {
	up := []uint64{0, 1, 2, 1 << 51, 1<<52 - 1, 1 << 52, 1<<52 + 1,
		math.Float64bits(1e-300), math.Float64bits(0.1), math.Float64bits(0.5) - 1, math.Float64bits(0.5),
		math.Float64bits(1) - 1, math.Float64bits(1), math.Float64bits(1) + 1, math.Float64bits(2), math.Float64bits(math.Pi), math.Float64bits(7),
		math.Float64bits(1<<53 - 1), math.Float64bits(1 << 53), math.Float64bits(1<<53 + 2), math.Float64bits(1 << 63), math.Float64bits(1 << 64), math.Float64bits(1e300), endless - 1, endless}
	var l []uint64
	for _, b := range up {
		l = append(l, sign|b)
	}
	slices.Reverse(l)
	return append(l, up...)
}

// edges are numbers at their edges, of all kinds.
func edges() []float64 {
	var l []float64
	for _, b := range append(nones(), rising()...) {
		l = append(l, math.Float64frombits(b))
	}
	return l
}

// noise tells bits of all kinds, always the same of the same number.
func noise(seed int64, n int) []uint64 {
	r, l := rand.New(rand.NewSource(seed)), []uint64{}
	for k := range n {
		b := r.Uint64()
		switch k % 5 {
		case 1:
			b = math.Float64bits(r.NormFloat64() * 10)
		case 2:
			b = math.Float64bits(float64(r.Intn(9) - 4))
		case 3:
			b &^= endless // nought, or next to it
		case 4:
			b |= endless
			b &^= uint64(r.Intn(2)) * (1<<52 - 1)
		}
		l = append(l, b)
	}
	return l
}

// stands tells where the number that has the bits b stands: all that is no number at 0, each other one by a number of its own, which rises as the order does.
func stands(b uint64) uint64 {
	if b&^sign > endless {
		return 0
	}
	if b&sign != 0 {
		return ^b
	}
	return b | sign
}

// order tells the order of two numbers by their bits alone.
func order(a, b float64) int {
	at, other := stands(math.Float64bits(a)), stands(math.Float64bits(b))
	if at < other {
		return -1
	}
	if at > other {
		return 1
	}
	return 0
}

// same tells whether two numbers have the same bits, or are both no number.
func same(a, b float64) bool {
	return order(a, b) == 0
}

// Promise 5.1: the kinds, by hand.
func TestKindByHand(t *testing.T) {
	for _, c := range []struct {
		x    float64
		want int
	}{
		{nan, 0}, {math.NaN(), 0}, {-nan, 0}, {math.Float64frombits(sign | one), 0}, {math.Float64frombits(endless + 1), 0}, {above - above, 0},
		{below, 1}, {-math.MaxFloat64, 2}, {-1, 2}, {-0.5, 2}, {-0x1p-1022, 2}, {-math.SmallestNonzeroFloat64, 2},
		{minus0, 3}, {0, 4}, {math.SmallestNonzeroFloat64, 5}, {0x1p-1022, 5}, {0.5, 5}, {1, 5}, {math.MaxFloat64, 5}, {above, 6},
	} {
		if got := real.Kind(c.x); got != c.want {
			t.Errorf("Kind of %v (bits %x): %d, want %d", c.x, math.Float64bits(c.x), got, c.want)
		}
	}
}

// Promise 5.1: the kinds of bits of all kinds.
func TestKind(t *testing.T) {
	for _, b := range slices.Concat(nones(), rising(), noise(1, 100000)) {
		want := 0
		switch {
		case b&^sign > endless:
		case b == sign|endless:
			want = 1
		case b == sign:
			want = 3
		case b == 0:
			want = 4
		case b == endless:
			want = 6
		case b&sign != 0:
			want = 2
		default:
			want = 5
		}
		if got := real.Kind(math.Float64frombits(b)); got != want {
			t.Errorf("Kind of the bits %x: %d, want %d", b, got, want)
		}
	}
}

// Promise 5.1 and the chapter's example 1.
func TestOrderByHand(t *testing.T) {
	for _, c := range []struct {
		a, b float64
		want int
	}{
		{minus0, 0, -1}, {minus0, minus0, 0}, {0, 0, 0}, {nan, nan, 0}, {nan, math.NaN(), 0}, {nan, math.Float64frombits(sign | endless | 1), 0}, {below, below, 0}, {above, above, 0},
		{nan, below, -1}, {nan, above, -1}, {nan, minus0, -1}, {nan, 0, -1}, {nan, -1, -1}, {nan, 1, -1}, {math.Float64frombits(sign | one), below, -1},
		{below, -math.MaxFloat64, -1}, {below, above, -1}, {below, minus0, -1}, {below, 0, -1},
		{-2, -1, -1}, {-1, -0.5, -1}, {-1, minus0, -1}, {-1, 0, -1}, {-1, 1, -1}, {-math.SmallestNonzeroFloat64, minus0, -1}, {-1, -1, 0},
		{minus0, 1, -1}, {minus0, math.SmallestNonzeroFloat64, -1}, {0, math.SmallestNonzeroFloat64, -1}, {0, 1, -1},
		{1, 2, -1}, {1, 1, 0}, {0.1, 0.2, -1}, {1, math.Nextafter(1, 2), -1}, {math.MaxFloat64, above, -1},
	} {
		if got := real.Order(c.a, c.b); got != c.want {
			t.Errorf("Order of %v and %v: %d, want %d", c.a, c.b, got, c.want)
		}
		if got := real.Order(c.b, c.a); got != -c.want {
			t.Errorf("Order of %v and %v: %d, want %d", c.b, c.a, got, -c.want)
		}
	}
}

// Promise 5.1: each pair of the numbers at their edges, and of noise, as their bits tell.
func TestOrder(t *testing.T) {
	l := edges()
	for _, b := range noise(2, 1000) {
		l = append(l, math.Float64frombits(b))
	}
	for _, a := range l {
		for _, b := range l {
			if got := real.Order(a, b); got != order(a, b) {
				t.Errorf("Order of %v and %v: %d, want %d", a, b, got, order(a, b))
			}
		}
	}
}

// Promise 5.1: numbers that rise by hand rise in the order, too, with all of what is no number ahead of them.
func TestRising(t *testing.T) {
	l := rising()
	for k := range l {
		x := math.Float64frombits(l[k])
		for _, none := range nones() {
			if real.Order(math.Float64frombits(none), x) != -1 || real.Order(x, math.Float64frombits(none)) != 1 {
				t.Errorf("what is no number, bits %x, does not stand ahead of %v", none, x)
			}
		}
		for m := range l {
			want := 0
			if k < m {
				want = -1
			} else if k > m {
				want = 1
			}
			if y := math.Float64frombits(l[m]); real.Order(x, y) != want {
				t.Errorf("Order of %v and %v: %d, want %d", x, y, real.Order(x, y), want)
			}
		}
	}
}

// Promise 5.4: of three what is ahead of something ahead is ahead, and what is alike is alike in all.
func TestOrderOfThree(t *testing.T) {
	l := edges()
	for _, a := range l {
		for _, b := range l {
			ahead := real.Order(a, b)
			if real.Order(b, a) != -ahead {
				t.Errorf("%v and %v stand ahead of each other", a, b)
			}
			for _, c := range l {
				behind, all := real.Order(b, c), real.Order(a, c)
				if ahead <= 0 && behind < 0 && all >= 0 || ahead < 0 && behind <= 0 && all >= 0 || ahead == 0 && behind == 0 && all != 0 {
					t.Fatalf("%v, %v and %v don't stand in one order", a, b, c)
				}
			}
		}
	}
}

// Promise 5.4: only what is the same is alike: what has the same bits here, the sign of nought with them.
func TestAlikeIsTheSame(t *testing.T) {
	l := edges()
	for _, b := range noise(3, 1000) {
		l = append(l, math.Float64frombits(b))
	}
	for _, a := range l {
		for _, b := range l {
			alike := real.Order(a, b) == 0
			if alike != (real.Bits(a) == real.Bits(b)) || alike && real.Kind(a) != real.Kind(b) {
				t.Errorf("%v and %v: alike %v, bits %x and %x, kinds %d and %d", a, b, alike, real.Bits(a), real.Bits(b), real.Kind(a), real.Kind(b))
			}
		}
	}
}

// Promise 5.4: the kinds rise as the order does.
func TestKindsRise(t *testing.T) {
	for _, a := range edges() {
		for _, b := range edges() {
			if real.Kind(a) < real.Kind(b) && real.Order(a, b) != -1 {
				t.Errorf("%v and %v: kinds %d and %d, order %d", a, b, real.Kind(a), real.Kind(b), real.Order(a, b))
			}
		}
	}
}

// Promise 5.2, R3 and the chapter's example 2.
func TestGreatestByHand(t *testing.T) {
	for _, c := range []struct {
		l    []float64
		want int
		ok   bool
	}{
		{[]float64{nan, -1, minus0}, 2, true},
		{nil, 0, false}, {[]float64{}, 0, false},
		{[]float64{nan}, 0, true}, {[]float64{nan, nan}, 0, true}, {[]float64{nan, math.NaN(), -nan}, 0, true}, {[]float64{nan, below}, 1, true}, {[]float64{below, nan}, 0, true},
		{[]float64{5}, 0, true}, {[]float64{1, 2, 3}, 2, true}, {[]float64{3, 2, 1}, 0, true}, {[]float64{1, 3, 2}, 1, true}, {[]float64{1, 3, 2, 3}, 1, true}, {[]float64{2, 2, 2}, 0, true},
		{[]float64{minus0, 0}, 1, true}, {[]float64{0, minus0}, 0, true}, {[]float64{minus0, minus0, 0, 0}, 2, true}, {[]float64{minus0, nan}, 0, true},
		{[]float64{above, nan, above}, 0, true}, {[]float64{math.MaxFloat64, above, nan}, 1, true}, {[]float64{below, -math.MaxFloat64}, 1, true}, {[]float64{-1, -2, -0.5, nan}, 2, true},
	} {
		if got, ok := real.Greatest(c.l); got != c.want || ok != c.ok {
			t.Errorf("Greatest of %v: %d %v, want %d %v", c.l, got, ok, c.want, c.ok)
		}
	}
}

// greatest tells by the bits alone what Greatest ought to tell of a list that has something.
func greatest(l []float64) int {
	for i := range l {
		if !slices.ContainsFunc(l, func(x float64) bool { return order(x, l[i]) > 0 }) {
			return i
		}
	}
	return -1
}

// Promise 5.2: all lists of up to three numbers at their edges.
func TestGreatestOfFew(t *testing.T) {
	for _, a := range edges() {
		for _, b := range edges() {
			for _, c := range edges() {
				for n := 1; n <= 3; n++ {
					l := []float64{a, b, c}[:n]
					if got, ok := real.Greatest(l); got != greatest(l) || !ok {
						t.Fatalf("Greatest of %v: %d %v, want %d", l, got, ok, greatest(l))
					}
				}
			}
		}
	}
}

// Promise 5.2: long lists, in which many are alike.
func TestGreatest(t *testing.T) {
	for seed := range int64(500) {
		r, l, e := rand.New(rand.NewSource(seed)), []float64{}, edges()
		for _, b := range noise(seed, 1+r.Intn(40)) {
			l = append(l, math.Float64frombits(b), e[r.Intn(len(e))])
		}
		if seed%2 == 0 {
			l = slices.DeleteFunc(l, func(x float64) bool { return x >= 1 })
		}
		if len(l) == 0 {
			continue
		}
		kept := slices.Clone(l)
		if got, ok := real.Greatest(l); got != greatest(l) || !ok {
			t.Errorf("Greatest of %v: %d %v, want %d", l, got, ok, greatest(l))
		}
		if !slices.EqualFunc(l, kept, func(a, b float64) bool { return math.Float64bits(a) == math.Float64bits(b) }) {
			t.Error("Greatest changed what was handed in")
		}
	}
}

// Promise 5.2: by hand, also where low stands behind high: low is looked at first.
func TestClampByHand(t *testing.T) {
	for _, c := range []struct{ x, low, high, want float64 }{
		{1, 0, 2, 1}, {-1, 0, 2, 0}, {3, 0, 2, 2}, {0, 0, 2, 0}, {2, 0, 2, 2}, {1, 1, 1, 1}, {0, 1, 1, 1}, {2, 1, 1, 1},
		{1, 2, 0, 2}, {3, 2, 0, 0}, {2, 2, 0, 0}, {-1, 2, 0, 2}, {0, 2, 0, 2},
		{minus0, 0, 1, 0}, {0, minus0, 1, 0}, {0, -1, minus0, minus0}, {minus0, -1, 0, minus0}, {minus0, minus0, 0, minus0}, {0, minus0, minus0, minus0}, {minus0, 0, 0, 0}, {-1, minus0, 0, minus0}, {1, minus0, 0, 0}, {1, -1, minus0, minus0},
		{nan, 0, 1, 0}, {nan, below, above, below}, {nan, nan, 1, nan}, {nan, nan, nan, nan}, {5, nan, nan, nan}, {5, nan, 7, 5}, {5, nan, 3, 3}, {5, 3, nan, nan}, {5, 7, nan, 7}, {below, nan, nan, nan},
		{above, 0, 1, 1}, {below, 0, 1, 0}, {above, below, above, above}, {below, below, above, below}, {0, above, below, above}, {above, above, below, below}, {math.MaxFloat64, 0, above, math.MaxFloat64}, {1, below, above, 1},
	} {
		if got := real.Clamp(c.x, c.low, c.high); !same(got, c.want) {
			t.Errorf("Clamp of %v, %v, %v: %v, want %v", c.x, c.low, c.high, got, c.want)
		}
	}
}

// Promise 5.2: each three of the numbers at their edges, as their bits tell.
func TestClamp(t *testing.T) {
	for _, x := range edges() {
		for _, low := range edges() {
			for _, high := range edges() {
				want := x
				if order(x, low) < 0 {
					want = low
				} else if order(x, high) > 0 {
					want = high
				}
				if got := real.Clamp(x, low, high); !same(got, want) {
					t.Fatalf("Clamp of %v, %v, %v: %v, want %v", x, low, high, got, want)
				}
			}
		}
	}
}

// Promise 5.2: where low does not stand behind high, what is told stands between them, and stays as it is.
func TestClampStays(t *testing.T) {
	for _, x := range edges() {
		for _, low := range edges() {
			for _, high := range edges() {
				got := real.Clamp(x, low, high)
				if real.Order(low, high) > 0 {
					continue
				}
				if real.Order(got, low) < 0 || real.Order(got, high) > 0 || !same(real.Clamp(got, low, high), got) {
					t.Fatalf("Clamp of %v, %v, %v: %v", x, low, high, got)
				}
			}
		}
	}
}

// Promise 5.3 and the chapter's example 3.
func TestRatioByHand(t *testing.T) {
	for _, c := range []struct {
		n, m int
		want float64
	}{
		{0, 0, nan}, {1, 0, above}, {-1, 0, below}, {math.MaxInt, 0, above}, {math.MinInt, 0, below}, {7, 0, above},
		{0, 1, 0}, {0, -1, minus0}, {0, math.MaxInt, 0}, {0, math.MinInt, minus0}, {0, 7, 0},
		{1, 2, 0.5}, {-1, 2, -0.5}, {1, -2, -0.5}, {-1, -2, 0.5}, {7, 7, 1}, {6, 7, 0.8571428571428571}, {1, 3, 0.3333333333333333}, {3, 1, 3}, {7, 2, 3.5}, {1, 10, 0.1},
		{1<<53 + 1, 1, 1 << 53}, {1, 1<<53 + 1, 0x1p-53}, {1<<53 + 1, 1<<53 + 1, 1}, {1<<53 + 1, 1 << 53, 1}, {1<<53 + 1, 3, 3002399751580330.5}, {1<<53 + 3, 1, 1<<53 + 4},
		{math.MaxInt, 1, 1 << 63}, {math.MinInt, 1, -1 << 63}, {math.MaxInt, math.MaxInt, 1}, {math.MinInt, math.MaxInt, -1}, {math.MinInt, -1, 1 << 63}, {math.MinInt, math.MinInt, 1}, {1, math.MinInt, -0x1p-63}, {1, math.MaxInt, 0x1p-63},
	} {
		if got := real.Ratio(c.n, c.m); !same(got, c.want) {
			t.Errorf("Ratio of %d and %d: %v, want %v", c.n, c.m, got, c.want)
		}
	}
	if got := real.Kind(real.Ratio(0, 0)); got != 0 {
		t.Errorf("Kind of noughts' Ratio: %d", got)
	}
}

// counts are whole numbers at their edges.
func counts() []int {
	l := []int{math.MinInt, math.MinInt + 1, math.MinInt + 1<<10, math.MinInt32, -1<<53 - 1, -1 << 53, 1 << 53, 1<<53 + 1, 1<<53 + 2, 1<<53 + 3, 1<<54 + 2, 1<<54 + 6, 1<<62 + 1<<9, 1<<62 + 1<<9 + 1, math.MaxInt32, math.MaxInt - 1<<9, math.MaxInt - 1<<9 - 1, math.MaxInt - 1, math.MaxInt}
	for i := -20; i <= 20; i++ {
		l = append(l, i)
	}
	return l
}

// ratio tells n by m in great floating numbers of as many bits as the small ones have, where m is not 0 and n not 0, too.
func ratio(n, m int) float64 {
	a := new(big.Float).SetPrec(53).SetInt64(int64(n))
	b := new(big.Float).SetPrec(53).SetInt64(int64(m))
	x, _ := new(big.Float).SetPrec(53).Quo(a, b).Float64()
	return x
}

// Promise 5.3: each pair of whole numbers at their edges, and of noise, rounded twice: as they are made floating numbers, and as they are divided.
func TestRatio(t *testing.T) {
	l := counts()
	for _, b := range noise(4, 300) {
		l = append(l, int(b), int(b>>uint(b%64)))
	}
	for _, n := range l {
		for _, m := range l {
			want := nan
			switch {
			case n == 0 && m == 0:
			case m == 0 && n < 0:
				want = below
			case m == 0:
				want = above
			case n == 0 && m < 0:
				want = minus0
			case n == 0:
				want = 0
			default:
				want = ratio(n, m)
			}
			if got := real.Ratio(n, m); math.Float64bits(got) != math.Float64bits(want) {
				t.Errorf("Ratio of %d and %d: %v, want %v", n, m, got, want)
			}
		}
	}
}

// Promise 5.3: by hand.
func TestBitsByHand(t *testing.T) {
	for _, c := range []struct {
		x    float64
		want uint64
	}{
		{0, 0}, {minus0, 1 << 63}, {1, 0x3ff0000000000000}, {-1, 0xbff0000000000000}, {2, 0x4000000000000000}, {0.5, 0x3fe0000000000000}, {0.1, 0x3fb999999999999a}, {-0.1, 0xbfb999999999999a},
		{above, 0x7ff0000000000000}, {below, 0xfff0000000000000}, {math.MaxFloat64, 0x7fefffffffffffff}, {-math.MaxFloat64, 0xffefffffffffffff}, {math.SmallestNonzeroFloat64, 1}, {-math.SmallestNonzeroFloat64, 1<<63 + 1}, {0x1p-1022, 1 << 52},
	} {
		if got := real.Bits(c.x); got != c.want {
			t.Errorf("Bits of %v: %x, want %x", c.x, got, c.want)
		}
		if got := real.From(c.want); math.Float64bits(got) != c.want || got != c.x {
			t.Errorf("From of %x: %v, want %v", c.want, got, c.x)
		}
	}
}

// Promise 5.3: all that is no number has the same bits, and of such bits, whichever they are, From tells what is no number.
func TestBitsOfNone(t *testing.T) {
	for _, b := range nones() {
		if got := real.Bits(math.Float64frombits(b)); got != one {
			t.Errorf("Bits of what is no number, as %x: %d", b, got)
		}
		if got := real.From(b); !math.IsNaN(got) || real.Kind(got) != 0 || real.Bits(got) != one {
			t.Errorf("From of %x: %v", b, got)
		}
	}
	for _, x := range []float64{real.Ratio(0, 0), above - above, -nan, math.Sqrt(-1), math.Log(-1), real.Clamp(1, 0, nan)} {
		if got := real.Bits(x); got != one {
			t.Errorf("Bits of what is no number: %d", got)
		}
	}
}

// Promise 5.5: of each number From of Bits is that one, its sign included; and of bits of a number Bits of From are those.
func TestThereAndBack(t *testing.T) {
	for _, b := range slices.Concat(rising(), nones(), noise(5, 100000)) {
		x, none := math.Float64frombits(b), b&^sign > endless
		if got := real.From(real.Bits(x)); !same(got, x) || !none && math.Float64bits(got) != b {
			t.Errorf("From of Bits of %v (bits %x): %v", x, b, got)
		}
		want := b
		if none {
			want = one
		}
		if got := real.Bits(real.From(b)); got != want {
			t.Errorf("Bits of From of %x: %x, want %x", b, got, want)
		}
	}
}

// Promise P1: every call ends and none panics, whatever the numbers are together.
func TestAnyArguments(t *testing.T) {
	long := make([]float64, 0, 1<<20)
	for _, b := range noise(6, cap(long)) {
		long = append(long, math.Float64frombits(b))
	}
	for _, a := range edges() {
		real.Kind(a)
		real.Bits(a)
		for _, b := range edges() {
			real.Order(a, b)
			real.Greatest([]float64{a, b})
			real.Clamp(a, b, b)
			real.Clamp(a, a, b)
		}
	}
	for _, n := range counts() {
		real.From(uint64(n))
		for _, m := range counts() {
			real.Ratio(n, m)
		}
	}
	if at, ok := real.Greatest(long); !ok || at < 0 || at >= len(long) || long[at] != above {
		t.Error("a long list:", at, ok)
	}
}
