package ready_test

import (
	"math"
	"math/rand"
	"slices"
	"testing"

	"escheat/api"
	"escheat/ready"
)

func of(at int, data ...byte) api.Patch {
	return api.Patch{At: at, Data: data}
}

func change(id, block int, p api.Patch, needs ...int) api.Change {
	return api.Change{ID: id, Block: block, Patch: p, Needs: needs}
}

func copied(l []api.Change) []api.Change {
	kept := slices.Clone(l)
	for i := range kept {
		kept[i].Patch.Data = slices.Clone(l[i].Patch.Data)
		kept[i].Needs = slices.Clone(l[i].Needs)
	}
	return kept
}

func alike(c, d api.Change) bool {
	return c.ID == d.ID && c.Block == d.Block && c.Patch.At == d.Patch.At && slices.Equal(c.Patch.Data, d.Patch.Data) && slices.Equal(c.Needs, d.Needs)
}

func allAlike(l, m []api.Change) bool {
	return slices.EqualFunc(l, m, alike)
}

// rise tells whether the numbers are from 1 on, and each is greater than the one ahead.
func rise(l []int) bool {
	for i, n := range l {
		if n < 1 || i > 0 && n <= l[i-1] {
			return false
		}
	}
	return true
}

// mayBe tells what Check ought to.
func mayBe(l []api.Change) bool {
	var ids []int
	for _, c := range l {
		ids = append(ids, c.ID)
		n, needs := len(c.Patch.Data), c.Needs
		if c.Block < 0 || n < 1 || n > 256 || c.Patch.At < 0 || c.Patch.At > 255 || c.Patch.At+n > 256 || !rise(needs) || len(needs) > 0 && needs[len(needs)-1] >= c.ID {
			return false
		}
	}
	return rise(ids)
}

// meet tells byte by byte whether patches that may be do.
func meet(p, q api.Patch) bool {
	for at := range 256 {
		if at >= p.At && at < p.At+len(p.Data) && at >= q.At && at < q.At+len(q.Data) {
			return true
		}
	}
	return false
}

// waits tells the places of those for which the one at the place waits.
func waits(l []api.Change, place int) []int {
	var places []int
	for k, c := range l[:place] {
		if slices.Contains(l[place].Needs, c.ID) || c.Block == l[place].Block && meet(c.Patch, l[place].Patch) {
			places = append(places, k)
		}
	}
	return places
}

// isReady tells of each place whether the change there is ready, of its block.
func isReady(l []api.Change) []bool {
	ready := make([]bool, len(l))
	for i, c := range l {
		ready[i] = true
		for _, k := range waits(l, i) {
			ready[i] = ready[i] && ready[k] && l[k].Block == c.Block
		}
	}
	return ready
}

// wantWaits tells what Waits ought to.
func wantWaits(l []api.Change, id int) []int {
	var ids []int
	if mayBe(l) {
		for i, c := range l {
			if c.ID == id {
				for _, k := range waits(l, i) {
					ids = append(ids, l[k].ID)
				}
			}
		}
	}
	return ids
}

// wantReady tells what Ready ought to.
func wantReady(l []api.Change, block int) []int {
	var ids []int
	if mayBe(l) {
		for i, is := range isReady(l) {
			if is && l[i].Block == block {
				ids = append(ids, l[i].ID)
			}
		}
	}
	return ids
}

// wantOf tells what Of ought to, wantWithout what Without ought to.
func wantOf(l []api.Change, block int) []api.Change {
	return slices.DeleteFunc(slices.Clone(l), func(c api.Change) bool { return c.Block != block })
}

func wantWithout(l []api.Change, ids []int) []api.Change {
	return slices.DeleteFunc(slices.Clone(l), func(c api.Change) bool { return slices.Contains(ids, c.ID) })
}

func wantBlocks(l []api.Change) []int {
	var blocks []int
	for _, c := range l {
		if !slices.Contains(blocks, c.Block) {
			blocks = append(blocks, c.Block)
		}
	}
	slices.Sort(blocks)
	return blocks
}

func wantFind(l []api.Change, id int) (api.Change, bool) {
	for _, c := range l {
		if c.ID == id {
			return c, true
		}
	}
	return api.Change{}, false
}

// lists are some that may be, by hand.
func lists() [][]api.Change {
	return [][]api.Change{
		nil, {},
		{change(1, 0, of(0, 1))}, {change(7, 511, of(255, 1), 1, 2, 6)}, {change(math.MaxInt, math.MaxInt, of(0, make([]byte, 256)...), 1, math.MaxInt-1)}, {change(2, 5, of(254, 1, 2), 1)},
		{change(1, 5, of(0, 1)), change(2, 6, of(0, 1), 1), change(3, 6, of(9, 1))},
		{change(1, 5, of(0, 1)), change(2, 5, of(0, 2)), change(3, 5, of(0, 3)), change(4, 5, of(1, 3))},
		{change(1, 5, of(0, 1)), change(2, 6, of(0, 2), 1), change(3, 5, of(0, 3), 2)},
		{change(3, 5, of(0, 1), 1, 2), change(8, 5, of(3, 2), 1, 3, 7), change(9, 6, of(0, 3), 4, 5, 8), change(20, 5, of(3, 1), 9, 19), change(21, 7, of(0, 1), 2)},
		{change(1, 6, of(0, 1)), change(2, 5, of(0, 1), 1), change(3, 5, of(1, 1), 2), change(4, 5, of(2, 1), 3), change(5, 5, of(3, 1)), change(6, 5, of(0, 1, 2, 3, 4), 5)},
	}
}

// some tells a list that may be, always the same of the same seed: few blocks, patches that meet often or seldom, and needs that the list has or not.
func some(seed int64) []api.Change {
	r := rand.New(rand.NewSource(seed))
	blocks, room, gap, few := 1+r.Intn(4), 1+r.Intn(256), 1+r.Intn(3), 1+r.Intn(12)
	var l []api.Change
	id := r.Intn(3)
	for range r.Intn(40) {
		id += 1 + r.Intn(gap)
		at := r.Intn(room)
		c := change(id, r.Intn(blocks), of(at, make([]byte, 1+r.Intn(min(256-at, 1+room/4)))...))
		for need := 1; need < id; need++ {
			if r.Intn(8*few) == 0 {
				c.Needs = append(c.Needs, need)
			}
		}
		l = append(l, c)
	}
	return l
}

// wild tells a list of any changes, most of which may not be, always the same of the same seed.
func wild(seed int64) []api.Change {
	r := rand.New(rand.NewSource(seed))
	edges := []int{math.MinInt, math.MinInt + 1, -1 << 32, -256, -2, -1, 0, 1, 2, 3, 4, 255, 256, 257, 1 << 32, math.MaxInt - 1, math.MaxInt}
	either := func() int {
		if r.Intn(3) == 0 {
			return edges[r.Intn(len(edges))]
		}
		return r.Intn(8) - 1
	}
	var l []api.Change
	for range r.Intn(12) {
		c := change(either(), either(), of(either(), make([]byte, r.Intn(4))...))
		for range r.Intn(4) {
			c.Needs = append(c.Needs, either())
		}
		l = append(l, c)
	}
	return l
}

// all tells the lists by hand, some of any seed that may be, and some that may not.
func all() [][]api.Change {
	l := lists()
	for seed := range int64(300) {
		l = append(l, some(seed), wild(seed))
	}
	return l
}

// numbers are those that the list tells anywhere, those beside them, and the edges.
func numbers(l []api.Change) []int {
	n := []int{math.MinInt, -1, 0, 1, 2, 3, 5, 512, math.MaxInt}
	for _, c := range l {
		n = append(n, c.ID, c.ID-1, c.ID+1, c.Block, c.Block+1)
	}
	slices.Sort(n)
	return slices.Compact(n)
}

// Promise 9.1: by hand.
func TestCheckByHand(t *testing.T) {
	for i, l := range lists() {
		if got := ready.Check(l); got != api.OK {
			t.Errorf("Check of the list %d: %v", i, got)
		}
	}
	p := of(0, 1)
	for _, l := range [][]api.Change{
		{{}}, {change(0, 5, p)}, {change(-1, 5, p)}, {change(math.MinInt, 5, p)}, {change(1, -1, p)}, {change(1, math.MinInt, p)},
		{change(1, 5, p), change(1, 5, p)}, {change(2, 5, p), change(1, 5, p)}, {change(1, 5, p), change(3, 5, p), change(2, 5, p)}, {change(1, 5, p), change(2, 5, p), change(2, 6, p)}, {change(math.MaxInt, 5, p), change(math.MinInt, 5, p)}, {change(1, 5, p), change(0, 5, p)}, {change(0, 5, p), change(1, 5, p)},
		{change(1, 5, of(0))}, {change(1, 5, of(-1, 1))}, {change(1, 5, of(-1, 1, 1))}, {change(1, 5, of(256, 1))}, {change(1, 5, of(255, 1, 2))}, {change(1, 5, of(0, make([]byte, 257)...))}, {change(1, 5, of(math.MaxInt, 1))}, {change(1, 5, of(math.MinInt, 1))},
		{change(1, 5, p, 1)}, {change(1, 5, p, 0)}, {change(1, 5, p, 2)}, {change(1, 5, p, -1)}, {change(9, 5, p, 9)}, {change(9, 5, p, 1, 9)}, {change(9, 5, p, 10)}, {change(9, 5, p, 0, 1)}, {change(9, 5, p, -1, 1)}, {change(9, 5, p, math.MinInt)}, {change(9, 5, p, math.MaxInt)}, {change(9, 5, p, 2, 1)}, {change(9, 5, p, 2, 2)}, {change(9, 5, p, 1, 3, 2)}, {change(9, 5, p, 1, 2, 2)}, {change(9, 5, p, 1, 2, 0)},
		{change(math.MaxInt, 5, p, math.MaxInt)}, {change(1, 5, p), change(2, 5, p, 2)}, {change(1, 5, p), change(2, 5, p, 3), change(3, 5, p)},
	} {
		if got := ready.Check(l); got != api.ErrArg {
			t.Errorf("Check of %v: %v", l, got)
		}
	}
}

// Promise 9.1: one fault, of each kind, at each place of lists that may be.
func TestCheckOfOneFault(t *testing.T) {
	for seed := range int64(60) {
		l := some(seed)
		if got := ready.Check(l); got != api.OK {
			t.Fatalf("Check of the list %d: %v", seed, got)
		}
		for i := range l {
			ahead := 0
			if i > 0 {
				ahead = l[i-1].ID
			}
			for k, fault := range []func(c *api.Change){
				func(c *api.Change) { c.ID = ahead }, func(c *api.Change) { c.ID = 0 }, func(c *api.Change) { c.ID = -c.ID },
				func(c *api.Change) { c.Block = -1 }, func(c *api.Change) { c.Block = math.MinInt },
				func(c *api.Change) { c.Patch.Data = nil }, func(c *api.Change) { c.Patch.At = -1 }, func(c *api.Change) { c.Patch.At = 257 - len(c.Patch.Data) }, func(c *api.Change) { c.Patch.Data = make([]byte, 257-c.Patch.At) },
				func(c *api.Change) { c.Needs = append(c.Needs, c.ID) }, func(c *api.Change) { c.Needs = append(c.Needs, 0) }, func(c *api.Change) { c.Needs = []int{0} }, func(c *api.Change) { c.Needs = []int{-1, 1} }, func(c *api.Change) { c.Needs = []int{1, 1} },
			} {
				wrong := copied(l)
				fault(&wrong[i])
				if got := ready.Check(wrong); got != api.ErrArg {
					t.Errorf("the list %d, fault %d at %d: %v", seed, k, i, got)
				}
			}
		}
	}
}

// Promise 9.1: any lists.
func TestCheck(t *testing.T) {
	for i, l := range all() {
		kept, want := copied(l), api.ErrArg
		if mayBe(l) {
			want = api.OK
		}
		if got := ready.Check(l); got != want {
			t.Errorf("Check of the list %d, %v: %v", i, l, got)
		}
		if !allAlike(l, kept) {
			t.Errorf("Check changed the list %d", i)
		}
	}
}

// Promise 9.1: by hand, of lists that may be and lists that may not: what is there twice, and what is not there.
func TestFindByHand(t *testing.T) {
	l := []api.Change{change(3, 5, of(0, 1), 1, 2), change(1, 6, of(300, 2)), change(3, 7, of(1, 3)), change(0, -4, of(0), 9, 8), change(math.MinInt, 8, of(0, 1))}
	for _, c := range []struct {
		id   int
		want api.Change
		has  bool
	}{
		{3, l[0], true}, {1, l[1], true}, {0, l[3], true}, {math.MinInt, l[4], true}, {2, api.Change{}, false}, {4, api.Change{}, false}, {-1, api.Change{}, false}, {math.MaxInt, api.Change{}, false}, {9, api.Change{}, false}, {5, api.Change{}, false},
	} {
		if got, has := ready.Find(l, c.id); has != c.has || !alike(got, c.want) {
			t.Errorf("Find of %d: %v, %v", c.id, got, has)
		}
	}
	for _, l := range [][]api.Change{nil, {}} {
		if got, has := ready.Find(l, 0); has || !alike(got, api.Change{}) {
			t.Errorf("Find of no change: %v, %v", got, has)
		}
	}
}

// Promise 9.1: by hand.
func TestListsByHand(t *testing.T) {
	a, b, c, d := change(3, 5, of(0, 1), 1, 2), change(1, 6, of(300, 2)), change(3, 5, of(1, 3)), change(0, -4, of(0), 9, 8)
	l := []api.Change{a, b, c, d, a}
	for _, x := range []struct {
		block int
		want  []api.Change
	}{{5, []api.Change{a, c, a}}, {6, []api.Change{b}}, {-4, []api.Change{d}}, {4, nil}, {0, nil}, {math.MaxInt, nil}} {
		if got := ready.Of(l, x.block); !allAlike(got, x.want) {
			t.Errorf("Of the block %d: %v", x.block, got)
		}
	}
	for _, x := range []struct {
		ids  []int
		want []api.Change
	}{{nil, l}, {[]int{}, l}, {[]int{2, 5, 6, -4}, l}, {[]int{3}, []api.Change{b, d}}, {[]int{3, 3, 3}, []api.Change{b, d}}, {[]int{0, 1}, []api.Change{a, c, a}}, {[]int{1, 0, math.MinInt}, []api.Change{a, c, a}}, {[]int{0, 1, 2, 3}, nil}} {
		if got := ready.Without(l, x.ids); !allAlike(got, x.want) {
			t.Errorf("Without %v: %v", x.ids, got)
		}
	}
	if got := ready.Blocks(l); !slices.Equal(got, []int{-4, 5, 6}) {
		t.Errorf("Blocks: %v", got)
	}
	for _, none := range [][]api.Change{nil, {}} {
		if len(ready.Blocks(none)) != 0 || len(ready.Of(none, 0)) != 0 || len(ready.Without(none, []int{0})) != 0 {
			t.Error("of no change")
		}
	}
}

// Promise 9.1: any lists, and any numbers.
func TestLists(t *testing.T) {
	for i, l := range all() {
		kept := copied(l)
		r := rand.New(rand.NewSource(int64(i)))
		var ids []int
		for _, n := range numbers(l) {
			if got := ready.Of(l, n); !allAlike(got, wantOf(l, n)) {
				t.Fatalf("the list %d, Of the block %d: %v", i, n, got)
			}
			got, has := ready.Find(l, n)
			if want, is := wantFind(l, n); has != is || !alike(got, want) {
				t.Fatalf("the list %d, Find of %d: %v, %v", i, n, got, has)
			}
			if r.Intn(3) == 0 {
				ids = append(ids, n)
			}
			r.Shuffle(len(ids), func(i, k int) { ids[i], ids[k] = ids[k], ids[i] })
			out := slices.Clone(ids)
			if got := ready.Without(l, ids); !allAlike(got, wantWithout(l, out)) || !slices.Equal(ids, out) {
				t.Fatalf("the list %d, Without %v: %v", i, out, got)
			}
		}
		if got := ready.Blocks(l); !slices.Equal(got, wantBlocks(l)) {
			t.Fatalf("the list %d, Blocks: %v", i, got)
		}
		if !allAlike(l, kept) {
			t.Fatalf("the list %d was changed", i)
		}
	}
}

// spoil changes all bytes and needs that the change has, and what lies past their ends.
func spoil(c api.Change) {
	data, needs := c.Patch.Data[:cap(c.Patch.Data)], c.Needs[:cap(c.Needs)]
	for i := range data {
		data[i] ^= 0x5a
	}
	for i := range needs {
		needs[i] = -7
	}
}

// told tells what Of, Without and Find do of the list.
func told(l []api.Change) [][]api.Change {
	found, _ := ready.Find(l, 3)
	return [][]api.Change{ready.Of(l, 5), ready.Of(l, 6), ready.Without(l, nil), ready.Without(l, []int{4}), {found}}
}

// R4: what is told shares no memory with what was handed in, or with another answer, nor do two changes of an answer.
func TestChangesAreNew(t *testing.T) {
	shared, ids := []byte{1, 2, 3, 4}, []int{1, 2, 3, 4}
	l := []api.Change{change(3, 5, of(0, 1, 2), 1, 2), change(4, 5, of(1, 3, 4), 3), change(3, 6, of(2, 5), 1)}
	for id := 5; id < 9; id++ {
		l = append(l, api.Change{ID: id, Block: id%2 + 5, Patch: api.Patch{Data: shared[:id-5]}, Needs: ids[:id-5]})
	}
	kept, other := copied(l), told(l)
	for k, got := range told(l) {
		want := copied(got)
		for i := range got {
			spoil(got[i])
			if !allAlike(got[i+1:], want[i+1:]) {
				t.Fatalf("answer %d: the change %d shares memory with one behind it", k, i)
			}
		}
		clear(got[:cap(got)])
		if !allAlike(other[k], want) || !allAlike(l, kept) {
			t.Fatalf("answer %d is no new memory", k)
		}
	}
}

// R4: numbers that are told are new memory.
func TestNumbersAreNew(t *testing.T) {
	l := lists()[9]
	other := [][]int{ready.Waits(l, 20), ready.Ready(l, 5), ready.Blocks(l)}
	for k, got := range [][]int{ready.Waits(l, 20), ready.Ready(l, 5), ready.Blocks(l)} {
		want := slices.Clone(got)
		clear(got[:cap(got)])
		if len(want) == 0 || !slices.Equal(other[k], want) || !allAlike(l, lists()[9]) {
			t.Fatalf("answer %d is no new memory: %v", k, want)
		}
	}
}

// Promise 9.2: by hand: needs that the list has or not, of any block; patches of the same block that meet, or stand side by side; what is told once only.
func TestWaitsByHand(t *testing.T) {
	a, b := of(0, 1), of(1, 1)
	for i, c := range []struct {
		l    []api.Change
		id   int
		want []int
	}{
		{nil, 1, nil}, {[]api.Change{change(1, 5, a)}, 1, nil}, {[]api.Change{change(1, 5, a)}, 2, nil}, {[]api.Change{change(1, 5, a)}, 0, nil}, {[]api.Change{change(4, 5, a, 1, 2, 3)}, 4, nil}, {[]api.Change{change(4, 5, a, 1, 2, 3)}, 3, nil},
		{[]api.Change{change(1, 5, a), change(2, 5, a)}, 2, []int{1}}, {[]api.Change{change(1, 5, a), change(2, 5, a)}, 1, nil}, {[]api.Change{change(1, 5, a), change(2, 6, a)}, 2, nil}, {[]api.Change{change(1, 5, a), change(2, 5, b)}, 2, nil},
		{[]api.Change{change(1, 5, of(0, 1, 2)), change(2, 5, b)}, 2, []int{1}}, {[]api.Change{change(1, 5, b), change(2, 5, of(0, 1, 2))}, 2, []int{1}}, {[]api.Change{change(1, 5, of(0, 1, 2)), change(2, 5, of(2, 1))}, 2, nil}, {[]api.Change{change(1, 5, of(255, 1)), change(2, 5, of(0, make([]byte, 256)...))}, 2, []int{1}}, {[]api.Change{change(1, 5, of(255, 1)), change(2, 5, of(0, make([]byte, 255)...))}, 2, nil},
		{[]api.Change{change(1, 5, a), change(2, 6, a, 1)}, 2, []int{1}}, {[]api.Change{change(1, 5, a), change(2, 5, b, 1)}, 2, []int{1}}, {[]api.Change{change(1, 5, a), change(2, 5, a, 1)}, 2, []int{1}}, {[]api.Change{change(2, 5, a), change(3, 5, b, 1)}, 3, nil},
		{[]api.Change{change(2, 5, a), change(4, 6, a), change(6, 5, a), change(8, 6, a), change(10, 5, a, 1, 3, 4, 5, 9)}, 10, []int{2, 4, 6}}, {[]api.Change{change(1, 5, a), change(2, 5, a), change(3, 5, a)}, 3, []int{1, 2}}, {[]api.Change{change(1, 5, a), change(2, 6, a, 1), change(3, 7, a, 2)}, 3, []int{2}},
		{[]api.Change{change(1, 0, a), change(math.MaxInt-1, math.MaxInt, a, 1), change(math.MaxInt, math.MaxInt, a, 1, 2)}, math.MaxInt, []int{1, math.MaxInt - 1}}, {[]api.Change{change(1, 5, a)}, math.MinInt, nil}, {[]api.Change{change(1, 5, a), change(3, 5, a)}, 2, nil},
		{[]api.Change{change(1, 5, a), change(2, 5, a), change(2, 5, a)}, 2, nil}, {[]api.Change{change(1, 5, a), change(2, 5, a), change(3, -1, a)}, 2, nil}, {[]api.Change{change(1, 5, a), change(2, 5, a), change(3, 5, of(3))}, 2, nil}, {[]api.Change{change(1, 5, a), change(2, 5, a), change(3, 5, a, 3)}, 2, nil}, {[]api.Change{change(0, 5, a), change(2, 5, a)}, 2, nil}, {[]api.Change{change(2, 5, a), change(1, 5, a)}, 1, nil},
	} {
		if got := ready.Waits(c.l, c.id); !slices.Equal(got, c.want) {
			t.Errorf("%d: Waits of %d: %v, want %v", i, c.id, got, c.want)
		}
	}
}

// Promise 9.3 and the chapter's example: by hand.
func TestReadyByHand(t *testing.T) {
	a, b, both := of(0, 1), of(1, 1), of(0, 1, 1)
	two := []api.Change{change(1, 5, a), change(2, 6, a, 1), change(3, 6, b)}
	for i, c := range []struct {
		l     []api.Change
		block int
		want  []int
	}{
		{two, 6, []int{3}}, {two, 5, []int{1}}, {two[1:], 6, []int{2, 3}}, {two, 7, nil}, {two, -1, nil}, {two, 0, nil}, {nil, 0, nil}, {[]api.Change{}, 5, nil},
		{[]api.Change{change(1, 5, a), change(2, 6, a, 1), change(3, 6, a)}, 6, nil}, {[]api.Change{change(1, 5, a), change(2, 6, both, 1), change(3, 6, b)}, 6, nil}, {[]api.Change{change(1, 5, a), change(2, 6, a, 1), change(3, 6, both), change(4, 6, b)}, 6, nil}, {[]api.Change{change(1, 5, a), change(2, 6, a, 1), change(3, 6, b, 2), change(4, 6, of(2, 1), 3), change(5, 6, of(3, 1))}, 6, []int{5}},
		{[]api.Change{change(1, 5, a), change(2, 5, a), change(3, 5, a, 1, 2), change(4, 5, b, 3)}, 5, []int{1, 2, 3, 4}}, {[]api.Change{change(1, 5, a), change(2, 5, b, 1), change(3, 6, a, 1), change(4, 5, both, 3), change(5, 5, of(2, 1), 2)}, 5, []int{1, 2, 5}},
		{[]api.Change{change(1, 5, a), change(2, 6, a, 1), change(3, 5, a, 2), change(4, 5, b)}, 5, []int{1, 4}}, {[]api.Change{change(1, 5, a), change(2, 6, a, 1), change(3, 5, a, 2), change(4, 5, b)}, 6, nil}, {[]api.Change{change(2, 6, a, 1), change(3, 5, a, 2), change(4, 5, b)}, 6, []int{2}}, {[]api.Change{change(3, 5, a, 2), change(4, 5, b)}, 5, []int{3, 4}},
		{[]api.Change{change(1, 6, a), change(2, 6, a), change(9, 7, a, 3, 4, 8)}, 7, []int{9}}, {[]api.Change{change(1, 6, a), change(2, 6, a), change(9, 7, a, 2, 3)}, 7, nil}, {[]api.Change{change(1, 6, a), change(2, 7, a, 1), change(3, 7, b, 1), change(4, 7, of(2, 1))}, 7, []int{4}},
		{[]api.Change{change(1, 6, a), change(2, 7, of(100, make([]byte, 100)...), 1), change(3, 7, of(99, 1)), change(4, 7, of(200, 1)), change(5, 7, of(100, 1)), change(6, 7, of(199, 1)), change(7, 7, of(150, 1)), change(8, 7, of(0, make([]byte, 256)...)), change(9, 7, of(98, 1)), change(10, 7, of(255, 1))}, 7, []int{3, 4}},
		{[]api.Change{change(1, 6, a), change(2, 6, a), change(2, 6, a)}, 6, nil}, {[]api.Change{change(1, 6, a), change(3, 6, a), change(2, 6, a)}, 6, nil}, {[]api.Change{change(1, 6, a), change(2, -1, a)}, 6, nil}, {[]api.Change{change(1, 6, a), change(2, 7, of(1))}, 6, nil}, {[]api.Change{change(1, 6, a), change(2, 7, a, 2)}, 6, nil}, {[]api.Change{change(0, 6, a)}, 6, nil}, {[]api.Change{change(1, -1, a)}, -1, nil},
		{[]api.Change{change(1, math.MaxInt, a), change(math.MaxInt, math.MaxInt, a, 1, math.MaxInt-1)}, math.MaxInt, []int{1, math.MaxInt}},
	} {
		if got := ready.Ready(c.l, c.block); !slices.Equal(got, c.want) {
			t.Errorf("%d: Ready of the block %d: %v, want %v", i, c.block, got, c.want)
		}
	}
}

// same holds Waits and Ready against what they ought to tell, for all numbers of the list and around it.
func same(t *testing.T, l []api.Change) {
	t.Helper()
	for _, n := range numbers(l) {
		if got, want := ready.Waits(l, n), wantWaits(l, n); !slices.Equal(got, want) {
			t.Fatalf("Waits of %d in %v: %v, want %v", n, l, got, want)
		}
		if got, want := ready.Ready(l, n), wantReady(l, n); !slices.Equal(got, want) {
			t.Fatalf("Ready of the block %d in %v: %v, want %v", n, l, got, want)
		}
	}
}

// follows holds what is ready against promises 9.4 and 9.5.
func follows(t *testing.T, l []api.Change, block int) {
	t.Helper()
	done := ready.Ready(l, block)
	for _, id := range done {
		for _, other := range ready.Waits(l, id) {
			if !slices.Contains(done, other) {
				t.Fatalf("of the block %d in %v %d is ready, for which it waits is not: %d", block, l, id, other)
			}
		}
	}
	left := ready.Without(l, done)
	if ready.Check(left) != api.OK || len(left) != len(l)-len(done) {
		t.Fatalf("what is left of %v, behind block %d: %v", l, block, left)
	}
	if again := ready.Ready(left, block); len(again) != 0 {
		t.Fatalf("of the block %d in %v at once ready again: %v", block, l, again)
	}
}

// small does what is handed on with each list of n changes of two blocks, that have either or both of two bytes, and need any of those ahead, with the IDs that are told.
func small(ids []int, do func(l []api.Change)) {
	patches := []api.Patch{of(0, 1), of(1, 1), of(0, 1, 1)}
	l := make([]api.Change, len(ids))
	var next func(at int)
	next = func(at int) {
		if at == len(l) {
			do(l)
			return
		}
		for _, p := range patches {
			for block := range 2 {
				for bits := range 1 << at {
					l[at] = change(ids[at], block, p)
					for k := range at {
						if bits>>k&1 == 1 {
							l[at].Needs = append(l[at].Needs, ids[k])
						}
					}
					next(at + 1)
				}
			}
		}
	}
	next(0)
}

// Promises 9.2 to 9.5: all small lists.
func TestSmallLists(t *testing.T) {
	for _, ids := range [][]int{{1}, {4}, {1, 2}, {2, 9}, {1, 2, 3}, {3, 4, 7}, {1, 2, 3, 4}} {
		count := 0
		small(ids, func(l []api.Change) {
			count++
			for block := range 2 {
				if got, want := ready.Ready(l, block), wantReady(l, block); !slices.Equal(got, want) {
					t.Fatalf("Ready of the block %d in %v: %v, want %v", block, l, got, want)
				}
				follows(t, l, block)
			}
			for _, id := range ids {
				if got, want := ready.Waits(l, id), wantWaits(l, id); !slices.Equal(got, want) {
					t.Fatalf("Waits of %d in %v: %v, want %v", id, l, got, want)
				}
			}
			if first := ready.Ready(l, l[0].Block); len(first) == 0 || first[0] != l[0].ID {
				t.Fatalf("the first one of %v is not ready: %v", l, first)
			}
		})
		if count == 0 {
			t.Error("no list")
		}
	}
}

// Promises 9.2 and 9.3: any lists, and any numbers; none of those that may not be.
func TestWaitsAndReady(t *testing.T) {
	for i, l := range all() {
		kept := copied(l)
		same(t, l)
		if !allAlike(l, kept) {
			t.Fatalf("the list %d was changed", i)
		}
	}
}

// Promises 9.2 and 9.3: a list that may not be has none, wherever its fault stands.
func TestOneFault(t *testing.T) {
	for seed := range int64(60) {
		l := some(seed)
		for i := range l {
			for k, fault := range []func(c *api.Change){
				func(c *api.Change) { c.ID = 0 }, func(c *api.Change) { c.Block = -1 }, func(c *api.Change) { c.Patch.Data = nil }, func(c *api.Change) { c.Patch.At = 256 }, func(c *api.Change) { c.Needs = append(c.Needs, c.ID) },
			} {
				wrong := copied(l)
				fault(&wrong[i])
				for _, n := range numbers(wrong) {
					if len(ready.Waits(wrong, n)) != 0 || len(ready.Ready(wrong, n)) != 0 {
						t.Fatalf("the list %d, fault %d at %d: not none", seed, k, i)
					}
				}
			}
		}
	}
}

// Promises 9.4 and 9.5: block behind block is done, any one of those that are left, till nothing is.
func TestTillNothingIsLeft(t *testing.T) {
	for seed := range int64(300) {
		r, l := rand.New(rand.NewSource(seed)), some(seed)
		for len(l) > 0 {
			same(t, l)
			first := ready.Ready(l, l[0].Block)
			if len(first) == 0 || first[0] != l[0].ID {
				t.Fatalf("the first one of %v is not ready: %v", l, first)
			}
			block := l[0].Block
			if blocks := ready.Blocks(l); r.Intn(2) == 0 {
				block = blocks[r.Intn(len(blocks))]
			}
			follows(t, l, block)
			l = ready.Without(l, ready.Ready(l, block))
		}
	}
}

// Promise P1: long lists end: rows of changes that meet or need one another, of one block and of many.
func TestLongLists(t *testing.T) {
	const n = 1 << 17
	for _, blocks := range []int{1, 2, 512} {
		l := make([]api.Change, n)
		for i := range l {
			l[i] = change(i+1, i%blocks, of(i%250, 1, 2, 3))
			for need := max(1, i-3); need <= i; need++ {
				l[i].Needs = append(l[i].Needs, need)
			}
		}
		want := 1
		if blocks == 1 {
			want = n
		}
		if got := ready.Ready(l, 0); len(got) != want || got[0] != 1 {
			t.Errorf("%d blocks: %d ready", blocks, len(got))
		}
		if got := ready.Ready(l, 1); len(got) != 0 {
			t.Errorf("%d blocks: %d ready of the second one", blocks, len(got))
		}
		if got := ready.Waits(l, n); !slices.Equal(got[len(got)-4:], []int{n - 4, n - 3, n - 2, n - 1}) {
			t.Errorf("%d blocks: the last one waits for %v", blocks, got[len(got)-4:])
		}
		if got := ready.Without(l, ready.Ready(l, 0)); len(got) != n-want || ready.Check(got) != api.OK {
			t.Errorf("%d blocks: %d left", blocks, len(got))
		}
		if got := ready.Blocks(l); len(got) != blocks {
			t.Errorf("%d blocks: %d", blocks, len(got))
		}
		if got := ready.Of(l, 0); len(got) != n/blocks {
			t.Errorf("%d blocks: %d of the first one", blocks, len(got))
		}
		if got, has := ready.Find(l, n); !has || !alike(got, l[n-1]) {
			t.Errorf("%d blocks: Find of the last one: %v", blocks, got)
		}
	}
}

// Promise P1: a change of many needs, and a patch of many bytes.
func TestManyNeeds(t *testing.T) {
	needs := make([]int, 1<<20)
	for i := range needs {
		needs[i] = i + 1
	}
	l := []api.Change{change(5, 3, of(0, 1), 1, 2, 3), change(1<<20, 3, of(7, 1), 4, 5, 6), {ID: 1<<20 + 1, Block: 3, Patch: of(9, 1), Needs: needs}}
	if got := ready.Ready(l, 3); !slices.Equal(got, []int{5, 1 << 20, 1<<20 + 1}) {
		t.Errorf("Ready: %v", got)
	}
	if got := ready.Waits(l, 1<<20+1); !slices.Equal(got, []int{5, 1 << 20}) {
		t.Errorf("Waits: %v", got)
	}
	l[0].Patch.Data = make([]byte, 1<<24)
	if ready.Check(l) != api.ErrArg || len(ready.Ready(l, 3)) != 0 || len(ready.Waits(l, 1<<20)) != 0 || len(ready.Of(l, 3)) != 3 {
		t.Error("a patch of many bytes")
	}
}
