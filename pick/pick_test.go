package pick_test

import (
	"math"
	"math/big"
	"math/rand"
	"slices"
	"testing"

	"escheat/pick"
)

const (
	sign    = 1 << 63
	endless = 0x7ff << 52 // the bits of the infinity above 0
)

// The edges, by the library alone.
var (
	above  = math.Inf(1)
	below  = math.Inf(-1)
	minus0 = math.Copysign(0, -1)
	nan    = math.NaN()
)

// nones are bits of what is no number: quiet, signalling, with the sign and without.
func nones() []uint64 {
	var l []uint64
	for _, rest := range []uint64{1, 2, 1<<51 - 1, 1 << 51, 1<<51 + 1, 1<<52 - 1} {
		l = append(l, endless|rest, sign|endless|rest)
	}
	return l
}

// numbers are the bits of numbers at their edges, the infinities with them: each stands ahead of the next one.
func numbers() []uint64 {
	up := []uint64{0, 1, 1<<52 - 1, 1 << 52}
	for _, x := range []float64{1e-300, 0x1p-63, 0x1p-53, 1.0 / 7, 0.25, 1.0 / 3, 3.0 / 7, 0.5, 4.0 / 7, 2.0 / 3, 0.75, 6.0 / 7, 1, 7.0 / 6, 2, 7, 1e300} {
		b := math.Float64bits(x)
		up = append(up, b-1, b, b+1)
	}
	up = append(up, endless-1, endless)
	var l []uint64
	for _, b := range slices.Backward(up) {
		l = append(l, sign|b)
	}
	return append(l, up...)
}

// weights are floating numbers at their edges, of all kinds.
func weights() []float64 {
	var l []float64
	for _, b := range slices.Concat(nones(), numbers()) {
		l = append(l, math.Float64frombits(b))
	}
	return l
}

// few are weights of each kind, of which some are alike.
func few() []float64 {
	return []float64{nan, math.Float64frombits(sign | endless | 1), below, -1, minus0, 0, math.SmallestNonzeroFloat64, 0.5, 1, above}
}

// counts are whole numbers at their edges.
func counts() []int {
	l := []int{math.MinInt, math.MinInt + 1, math.MaxInt - 1, math.MaxInt}
	for n := -9; n <= 20; n++ {
		l = append(l, n)
	}
	for _, k := range []int{8, 31, 32, 52, 53, 54, 55, 61, 62} {
		for d := -3; d <= 3; d++ {
			l = append(l, 1<<k+d, -(1<<k + d))
		}
	}
	// Of these the floating number is the next power of 2.
	return append(l, math.MaxInt-511, math.MaxInt-512, math.MaxInt-1023, math.MaxInt-1024)
}

// noise tells weights of all kinds, of which many are alike, always the same of the same number.
func noise(seed int64, n int) []float64 {
	r, l := rand.New(rand.NewSource(seed)), []float64{}
	for k := range n {
		switch k % 4 {
		case 0:
			l = append(l, r.Float64())
		case 1:
			l = append(l, float64(r.Intn(5)-2))
		case 2:
			l = append(l, few()[r.Intn(len(few()))])
		case 3:
			l = append(l, math.Float64frombits(r.Uint64()))
		}
	}
	return l
}

// stands tells where w stands in the order, by its bits alone: all that is no number at 0, each other one by a number of its own, which rises as the order does.
func stands(w float64) uint64 {
	b := math.Float64bits(w)
	if b&^sign > endless {
		return 0
	}
	if b&sign != 0 {
		return ^b
	}
	return b | sign
}

// at tells what At ought to, by great floating numbers of as many bits as the small ones have.
func at(n int, w float64) int {
	switch {
	case n < 1:
		return -1
	case math.IsNaN(w) || w <= 0:
		return 0
	case w >= 1:
		return n - 1
	}
	many := new(big.Float).SetPrec(53).SetInt64(int64(n))
	times := new(big.Float).SetPrec(53).Mul(many, new(big.Float).SetFloat64(w))
	whole, _ := times.Int(nil)
	if most := big.NewInt(int64(n) - 1); whole.Cmp(most) > 0 {
		whole = most
	}
	return int(whole.Int64())
}

// Promise 6.1 and the chapter's examples 1 and 2, by hand.
func TestAtByHand(t *testing.T) {
	last := math.Nextafter(1, 0) // the last one ahead of 1
	for _, c := range []struct {
		n    int
		w    float64
		want int
	}{
		{4, 0.5, 2}, {3, nan, 0}, {3, above, 2},
		{0, 0.5, -1}, {-1, 0.5, -1}, {math.MinInt, 0.5, -1}, {0, nan, -1}, {0, above, -1}, {-7, 1, -1}, {0, 0, -1}, {0, below, -1},
		{1, nan, 0}, {1, below, 0}, {1, 0, 0}, {1, 0.5, 0}, {1, last, 0}, {1, 1, 0}, {1, above, 0},
		{5, below, 0}, {5, -math.MaxFloat64, 0}, {5, -1, 0}, {5, -0.9, 0}, {5, -math.SmallestNonzeroFloat64, 0}, {5, minus0, 0}, {5, 0, 0}, {5, math.Float64frombits(sign | endless | 1), 0},
		{5, math.SmallestNonzeroFloat64, 0}, {5, 0.1, 0}, {5, 0.199, 0}, {5, 0.2, 1}, {5, 0.39, 1}, {5, 0.4, 2}, {5, 0.6, 3}, {5, 0.79, 3}, {5, 0.8, 4}, {5, 0.99, 4},
		{5, last, 4}, {5, 1, 4}, {5, math.Nextafter(1, 2), 4}, {5, 2, 4}, {5, 1e300, 4}, {5, math.MaxFloat64, 4}, {5, above, 4},
		{2, math.Nextafter(0.5, 0), 0}, {2, 0.5, 1}, {4, math.Nextafter(0.5, 0), 1}, {4, math.Nextafter(0.25, 0), 0}, {4, 0.25, 1},
		{3, 2.0 / 3, 2}, {1000, 0.9995, 999}, {1000, 0.0005, 0}, {512, 0.001953125, 1},
		{1 << 53, last, 1<<53 - 1}, {1<<53 + 1, last, 1<<53 - 1}, {1<<53 - 1, last, 1<<53 - 2}, {1<<53 + 3, last, 1<<53 + 2}, {1<<54 - 1, last, 1<<54 - 2},
		{math.MaxInt, 0.5, 1 << 62}, {math.MaxInt, last, math.MaxInt - 1023}, {math.MaxInt - 1023, last, math.MaxInt - 2047}, {math.MaxInt - 1100, last, math.MaxInt - 2047}, {math.MaxInt, 1, math.MaxInt - 1}, {math.MaxInt, 0, 0}, {math.MaxInt, 0x1p-63, 1}, {math.MaxInt, 0x1p-64, 0}, {math.MaxInt - 513, 0x1p-63, 0},
	} {
		if got := pick.At(c.n, c.w); got != c.want {
			t.Errorf("At of %d and %v: %d, want %d", c.n, c.w, got, c.want)
		}
	}
}

// Promise 6.1: numbers of things, and weights, at their edges, and noise.
func TestAt(t *testing.T) {
	for _, n := range counts() {
		for _, w := range slices.Concat(weights(), noise(1, 400)) {
			if got := pick.At(n, w); got != at(n, w) {
				t.Errorf("At of %d and %v: %d, want %d", n, w, got, at(n, w))
			}
		}
	}
}

// Promise 6.1: just ahead of each place, at it, and behind it.
func TestAtPlaces(t *testing.T) {
	for n := 1; n <= 600; n++ {
		for k := range n {
			w := float64(k) / float64(n)
			for _, x := range []float64{math.Nextafter(w, -1), w, math.Nextafter(w, 2), (float64(k) + 0.5) / float64(n)} {
				if got := pick.At(n, x); got != at(n, x) {
					t.Errorf("At of %d and %v: %d, want %d", n, x, got, at(n, x))
				}
			}
			if got := pick.At(n, (float64(k)+0.5)/float64(n)); got != k {
				t.Errorf("At of %d in the midst of place %d: %d", n, k, got)
			}
		}
	}
}

// Promise 6.4: what is picked is one of the things, and a weight that does not stand ahead picks no place ahead.
func TestAtRises(t *testing.T) {
	l := slices.Concat(weights(), noise(2, 500))
	slices.SortFunc(l, func(a, b float64) int {
		if stands(a) < stands(b) {
			return -1
		}
		if stands(a) > stands(b) {
			return 1
		}
		return 0
	})
	for _, n := range counts() {
		if n < 1 {
			continue
		}
		for i, w := range l {
			got := pick.At(n, w)
			if got < 0 || got >= n {
				t.Errorf("At of %d and %v: %d is none of the things", n, w, got)
			}
			if i > 0 && got < pick.At(n, l[i-1]) {
				t.Errorf("of %d things %v picks a place ahead of that of %v", n, w, l[i-1])
			}
		}
	}
}

// Promise 6.2, R3 and the chapter's example 3, by hand.
func TestRankByHand(t *testing.T) {
	other := math.Float64frombits(sign | endless | 1)
	for _, c := range []struct {
		l    []float64
		want []int
	}{
		{[]float64{minus0, 0, nan}, []int{1, 0, 2}},
		{nil, nil}, {[]float64{}, nil}, {[]float64{5}, []int{0}}, {[]float64{nan}, []int{0}},
		{[]float64{1, 2, 3}, []int{2, 1, 0}}, {[]float64{3, 2, 1}, []int{0, 1, 2}}, {[]float64{2, 3, 1}, []int{1, 0, 2}},
		{[]float64{2, 2, 2}, []int{0, 1, 2}}, {[]float64{1, 2, 1, 2}, []int{1, 3, 0, 2}}, {[]float64{0, minus0, 0, minus0}, []int{0, 2, 1, 3}},
		{[]float64{nan, other, nan}, []int{0, 1, 2}}, {[]float64{other, 1, nan}, []int{1, 0, 2}}, {[]float64{nan, below}, []int{1, 0}}, {[]float64{below, nan}, []int{0, 1}},
		{few(), []int{9, 8, 7, 6, 5, 4, 3, 2, 0, 1}},
		{[]float64{above, 1, above, nan, below, -1}, []int{0, 2, 1, 5, 4, 3}},
	} {
		if got := pick.Rank(c.l); !slices.Equal(got, c.want) {
			t.Errorf("Rank of %v: %v, want %v", c.l, got, c.want)
		}
	}
}

// rank tells what Rank ought to: each place stands behind as many as are weightier, or alike with a lesser place.
func rank(l []float64) []int {
	places := make([]int, len(l))
	for i := range l {
		ahead := 0
		for k := range l {
			if stands(l[k]) > stands(l[i]) || k < i && stands(l[k]) == stands(l[i]) {
				ahead++
			}
		}
		places[ahead] = i
	}
	return places
}

// Promise 6.2: all lists of up to four weights of each kind.
func TestRankOfFew(t *testing.T) {
	kinds := few()
	for k := range len(kinds) * len(kinds) * len(kinds) * len(kinds) {
		l := []float64{kinds[k%10], kinds[k/10%10], kinds[k/100%10], kinds[k/1000]}
		for n := range len(l) + 1 {
			if got := pick.Rank(l[:n]); !slices.Equal(got, rank(l[:n])) {
				t.Fatalf("Rank of %v: %v, want %v", l[:n], got, rank(l[:n]))
			}
		}
	}
}

// Promises 6.2 and 6.4, and R4: long lists, in which many are alike: each place stands once, and nothing that is handed in is changed.
func TestRank(t *testing.T) {
	for seed := range int64(100) {
		l := slices.Concat(noise(seed, int(seed)*5), weights())
		kept := slices.Clone(l)
		got := pick.Rank(l)
		if !slices.Equal(got, rank(l)) {
			t.Errorf("Rank of %v: %v, want %v", l, got, rank(l))
		}
		if !slices.EqualFunc(l, kept, sameBits) {
			t.Error("Rank changed what was handed in")
		}
		slices.Sort(got)
		for i, place := range got {
			if i != place {
				t.Fatalf("Rank of %v has not each place once", l)
			}
		}
	}
}

func sameBits(a, b float64) bool {
	return math.Float64bits(a) == math.Float64bits(b)
}

// Promise 6.3: by hand.
func TestWorthByHand(t *testing.T) {
	bits := math.Float64bits
	for _, c := range []struct {
		full, most int
		bound      uint64
		want       bool
	}{
		{0, 7, bits(minus0), false}, {0, 7, bits(0), true}, {0, 7, bits(nan), false}, {0, 7, bits(above), true}, {0, 7, bits(below), false}, {0, 7, bits(-1), false}, {0, 7, bits(math.SmallestNonzeroFloat64), true}, {0, 7, bits(-math.SmallestNonzeroFloat64), false},
		{1, 7, bits(0), false}, {1, 7, bits(1.0 / 7), true}, {1, 7, bits(1.0/7) - 1, false}, {1, 7, bits(1.0/7) + 1, true}, {1, 7, bits(nan), false}, {1, 7, bits(above), true},
		{3, 7, bits(0.5), true}, {4, 7, bits(0.5), false}, {7, 14, bits(0.5), true}, {7, 14, bits(0.5) - 1, false},
		{6, 7, bits(1), true}, {7, 7, bits(1), true}, {8, 7, bits(1), false}, {7, 7, bits(1) - 1, false}, {8, 7, bits(2), true}, {14, 7, bits(2), true}, {15, 7, bits(2), false},
		{math.MaxInt, 7, bits(above), true}, {math.MaxInt, 1, bits(math.MaxFloat64), true}, {math.MaxInt, math.MaxInt, bits(1), true}, {1<<53 + 1, 1 << 53, bits(1), true}, {math.MaxInt, math.MaxInt - 1024, bits(1), false},
		{1, 0, bits(above), true}, {1, 0, bits(math.MaxFloat64), false}, {0, 0, bits(below), true}, {0, 0, bits(minus0), true}, {0, 0, bits(1), true}, {0, 0, bits(above), true}, {0, 0, bits(nan), false}, {1, 0, bits(nan), false},
		{-1, 0, bits(below), true}, {-1, 0, bits(minus0), true}, {-1, 7, bits(minus0), true}, {-1, 7, bits(below), false}, {-1, 7, bits(-1), false}, {-7, 7, bits(-1), true}, {1, -7, bits(minus0), true}, {0, -7, bits(minus0), true}, {0, -7, bits(below), false}, {-1, -7, bits(0), false},
		{0, 7, 1 << 63, false}, {0, 7, 0x3ff0000000000000, true}, {6, 7, 0x7ff0000000000001, false}, {0, 7, 0xfff8000000000000, false}, {0, 7, math.MaxUint64, false}, {0, 7, 0xfff0000000000000, false}, {7, 7, 0x7ff0000000000000, true}, {0, 7, 9221120237041090560, false},
	} {
		if got := pick.Worth(c.full, c.most, c.bound); got != c.want {
			t.Errorf("Worth of %d of %d, and the bits %x: %v", c.full, c.most, c.bound, got)
		}
	}
}

// worth tells what Worth ought to, by where both numbers stand.
func worth(full, most int, bound uint64) bool {
	if bound&^sign > endless {
		return false
	}
	return stands(float64(full)/float64(most)) <= stands(math.Float64frombits(bound))
}

// Promise 6.3: whole numbers and bounds at their edges.
func TestWorth(t *testing.T) {
	for _, bound := range slices.Concat(nones(), numbers()) {
		for _, full := range counts() {
			for _, most := range counts() {
				if got := pick.Worth(full, most, bound); got != worth(full, most, bound) {
					t.Errorf("Worth of %d of %d, and the bits %x: %v", full, most, bound, got)
				}
			}
		}
	}
}

// Promise 6.3: a bound that is no number is met by nothing.
func TestWorthOfNone(t *testing.T) {
	for _, bound := range nones() {
		for _, full := range counts() {
			for _, most := range counts() {
				if pick.Worth(full, most, bound) {
					t.Errorf("Worth of %d of %d, and the bits %x", full, most, bound)
				}
			}
		}
	}
}

// Promise 6.4: whoever is worth it with more is worth it with fewer; and whoever meets a bound meets the next one.
func TestWorthOfFewer(t *testing.T) {
	rising := counts()
	slices.Sort(rising)
	bounds := numbers()
	for b, bound := range bounds {
		for _, most := range []int{0, 1, 2, 6, 7, 8, 14, 1 << 31, 1 << 53, math.MaxInt} {
			for i, full := range rising {
				if !pick.Worth(full, most, bound) {
					continue
				}
				if i > 0 && !pick.Worth(rising[i-1], most, bound) {
					t.Errorf("the bits %x: %d of %d is worth it, and %d is not", bound, full, most, rising[i-1])
				}
				if b+1 < len(bounds) && !pick.Worth(full, most, bounds[b+1]) {
					t.Errorf("%d of %d meets the bits %x, and not %x", full, most, bound, bounds[b+1])
				}
			}
		}
	}
}

// Promise 6.3 and R3: Spread by hand.
func TestSpreadByHand(t *testing.T) {
	for _, c := range []struct {
		n    int
		l    []float64
		want []int
	}{
		{4, nil, nil}, {4, []float64{}, nil}, {0, nil, nil}, {-1, []float64{}, nil},
		{4, []float64{0.5}, []int{2}}, {4, []float64{0.75, 0.5, 0.25, 0, 1}, []int{3, 2, 1, 0, 3}}, {3, []float64{above, nan, above}, []int{2, 0, 2}},
		{10, few(), []int{0, 0, 0, 0, 0, 0, 0, 5, 9, 9}}, {0, []float64{0.5, nan, above}, []int{-1, -1, -1}}, {-3, []float64{1, 0}, []int{-1, -1}}, {1, []float64{nan, 0.9, above}, []int{0, 0, 0}},
	} {
		if got := pick.Spread(c.n, c.l); !slices.Equal(got, c.want) {
			t.Errorf("Spread of %d by %v: %v, want %v", c.n, c.l, got, c.want)
		}
	}
}

// Promise 6.3 and R4: Spread tells At of each weight, in order, and changes nothing that is handed in.
func TestSpread(t *testing.T) {
	for _, n := range counts() {
		l := slices.Concat(noise(int64(n), 100), weights())
		kept := slices.Clone(l)
		got := pick.Spread(n, l)
		if len(got) != len(l) {
			t.Fatalf("Spread of %d tells %d places of %d weights", n, len(got), len(l))
		}
		for i, w := range l {
			if got[i] != at(n, w) {
				t.Errorf("Spread of %d: %v picks %d, want %d", n, w, got[i], at(n, w))
			}
		}
		if !slices.EqualFunc(l, kept, sameBits) {
			t.Error("Spread changed what was handed in")
		}
	}
}

// Promise P1 and R4: long lists end, and each answer is new memory.
func TestLongLists(t *testing.T) {
	l := noise(3, 1<<19)
	ranked := pick.Rank(l)
	for i := 1; i < len(ranked); i++ {
		ahead, behind := ranked[i-1], ranked[i]
		if a, b := stands(l[ahead]), stands(l[behind]); a < b || a == b && ahead > behind {
			t.Fatalf("a long list: the places %d and %d", ahead, behind)
		}
	}
	first, second := pick.Spread(9, l), pick.Spread(9, l)
	first[0]++
	if second[0] != at(9, l[0]) || len(first) != len(l) {
		t.Error("two answers share memory")
	}
	if alike := pick.Rank(make([]float64, 1<<19)); !slices.IsSorted(alike) {
		t.Error("alike ones don't stand by their places")
	}
}
