package graph_test

import (
	"math"
	"math/rand"
	"slices"
	"testing"

	"escheat/api"
	"escheat/graph"
	"escheat/patch"
	"escheat/ready"
	"escheat/roll"
)

func of(at int, data ...byte) api.Patch {
	return api.Patch{At: at, Data: data}
}

func change(id, block int, p api.Patch, needs ...int) api.Change {
	return api.Change{ID: id, Block: block, Patch: p, Needs: needs}
}

// many tells n bytes that are all b.
func many(n int, b byte) []byte {
	return slices.Repeat([]byte{b}, n)
}

func copied(l []api.Change) []api.Change {
	kept := slices.Clone(l)
	for i := range kept {
		kept[i].Patch.Data = slices.Clone(l[i].Patch.Data)
		kept[i].Needs = slices.Clone(l[i].Needs)
	}
	return kept
}

func alike(c, d api.Change) bool {
	return c.ID == d.ID && c.Block == d.Block && patch.Same(c.Patch, d.Patch) && slices.Equal(c.Needs, d.Needs)
}

func allAlike(l, m []api.Change) bool {
	return slices.EqualFunc(l, m, alike)
}

func ids(l []api.Change) []int {
	var told []int
	for _, c := range l {
		told = append(told, c.ID)
	}
	return told
}

// The calls as the chapter's words have them: by ready.Waits and roll.Write alone, one change and one block at a time.

func wantedAll(l []api.Change, id int) []int {
	if _, has := ready.Find(l, id); !has || ready.Check(l) != api.OK {
		return nil
	}
	all := []int{id}
	for at := 0; at < len(all); at++ {
		for _, ahead := range ready.Waits(l, all[at]) {
			if !slices.Contains(all, ahead) {
				all = append(all, ahead)
			}
		}
	}
	slices.Sort(all)
	return all
}

func wantedDepth(l []api.Change, id int) int {
	depths, deepest := map[int]int{}, 0
	for _, c := range wantedAll(l, id) {
		deepest = 0
		for _, ahead := range ready.Waits(l, c) {
			deepest = max(deepest, depths[ahead])
		}
		deepest++
		depths[c] = deepest
	}
	return deepest
}

func wantedAfter(l []api.Change, blocks []int) []api.Change {
	for _, block := range blocks {
		_, l, _ = roll.Write(api.Block{}, l, block)
	}
	return l
}

func wantedPlan(l []api.Change, id int) []int {
	var row []int
	for {
		all := wantedAll(l, id)
		if len(all) == 0 {
			return row
		}
		least, _ := ready.Find(l, all[0])
		row = append(row, least.Block)
		_, l, _ = roll.Write(api.Block{}, l, least.Block)
	}
}

func wantedDrain(l []api.Change) []int {
	var row []int
	for len(l) > 0 && ready.Check(l) == api.OK {
		row = append(row, l[0].Block)
		_, l, _ = roll.Write(api.Block{}, l, l[0].Block)
	}
	return row
}

// hold holds each call against what it ought to tell of the list and this ID.
func hold(t *testing.T, l []api.Change, id int) {
	t.Helper()
	if got, want := graph.All(l, id), wantedAll(l, id); !slices.Equal(got, want) {
		t.Fatalf("All of %d in %v: %v, want %v", id, l, got, want)
	}
	if got, want := graph.Depth(l, id), wantedDepth(l, id); got != want {
		t.Fatalf("Depth of %d in %v: %d, want %d", id, l, got, want)
	}
	if got, want := graph.Plan(l, id), wantedPlan(l, id); !slices.Equal(got, want) {
		t.Fatalf("Plan of %d in %v: %v, want %v", id, l, got, want)
	}
}

// holdList holds each call that is told no ID against what it ought to tell of the list.
func holdList(t *testing.T, l []api.Change, blocks []int) {
	t.Helper()
	if got, want := graph.Drain(l), wantedDrain(l); !slices.Equal(got, want) {
		t.Fatalf("Drain of %v: %v, want %v", l, got, want)
	}
	if got, want := graph.After(l, blocks), wantedAfter(l, blocks); !allAlike(got, want) {
		t.Fatalf("After %v of %v: %v, want %v", blocks, l, got, want)
	}
	block, is := graph.Next(l)
	if may := len(l) > 0 && ready.Check(l) == api.OK; is != may || may && block != l[0].Block || !may && block != 0 {
		t.Fatalf("Next of %v: %d %v", l, block, is)
	}
}

// none holds that every call tells of the list and this ID that there is nothing.
func none(t *testing.T, l []api.Change, id int) {
	t.Helper()
	if all, depth, plan := graph.All(l, id), graph.Depth(l, id), graph.Plan(l, id); len(all) != 0 || depth != 0 || len(plan) != 0 {
		t.Fatalf("of %d in %v: All %v, Depth %d, Plan %v", id, l, all, depth, plan)
	}
}

// noneOfList holds that every call tells of the list that it may not be.
func noneOfList(t *testing.T, l []api.Change) {
	t.Helper()
	for _, c := range l {
		none(t, l, c.ID)
	}
	if row := graph.Drain(l); len(row) != 0 {
		t.Fatalf("Drain of %v: %v", l, row)
	}
	if block, is := graph.Next(l); block != 0 || is {
		t.Fatalf("Next of %v: %d %v", l, block, is)
	}
	for _, blocks := range [][]int{nil, {0, 5, 6, 7}, ready.Blocks(l)} {
		if left := graph.After(l, blocks); !allAlike(left, l) {
			t.Fatalf("After %v of %v: %v", blocks, l, left)
		}
	}
}

// some tells a list that may be, always the same of the same seed: few blocks, patches that meet often or seldom, and needs that the list has or not.
func some(seed int64) []api.Change {
	r := rand.New(rand.NewSource(seed))
	blocks, room, gap, few := 1+r.Intn(6), 1+r.Intn(256), 1+r.Intn(3), 1+r.Intn(12)
	var l []api.Change
	id := r.Intn(3)
	for range r.Intn(40) {
		id += 1 + r.Intn(gap)
		at := r.Intn(room)
		c := change(id, r.Intn(blocks), of(at, many(1+r.Intn(min(256-at, 1+room/4)), byte(id))...))
		for need := 1; need < id; need++ {
			if r.Intn(8*few) == 0 {
				c.Needs = append(c.Needs, need)
			}
		}
		l = append(l, c)
	}
	return l
}

// row tells some blocks, of those of the list and others.
func row(r *rand.Rand) []int {
	blocks := make([]int, r.Intn(12))
	for i := range blocks {
		blocks[i] = r.Intn(8) - 1
	}
	return blocks
}

// faults make a change, and so its list, one that may not be.
func faults() []func(c *api.Change) {
	return []func(c *api.Change){
		func(c *api.Change) { c.ID = 0 }, func(c *api.Change) { c.ID = -c.ID }, func(c *api.Change) { c.Block = -1 }, func(c *api.Change) { c.Block = math.MinInt },
		func(c *api.Change) { c.Patch.Data = nil }, func(c *api.Change) { c.Patch.At = -1 }, func(c *api.Change) { c.Patch.At = 256 }, func(c *api.Change) { c.Patch.At = math.MaxInt }, func(c *api.Change) { c.Patch.Data = many(257, 9) },
		func(c *api.Change) { c.Needs = append(c.Needs, c.ID) }, func(c *api.Change) { c.Needs = append(c.Needs, c.ID+1) }, func(c *api.Change) { c.Needs = []int{0} }, func(c *api.Change) { c.Needs = []int{-1, 1} }, func(c *api.Change) { c.Needs = []int{1, 1} },
	}
}

// idsOf are those that the list has, those beside them, and the edges.
func idsOf(l []api.Change) []int {
	n := []int{math.MinInt, -1, 0, 1, math.MaxInt}
	for _, id := range ids(l) {
		n = append(n, id, id+1)
	}
	slices.Sort(n)
	return slices.Compact(n)
}

// The chapter's example, and all calls of it.
func TestExample(t *testing.T) {
	l := []api.Change{change(1, 5, of(0, 1)), change(2, 6, of(0, 2), 1), change(3, 5, of(9, 3), 2)}
	if got := graph.All(l, 3); !slices.Equal(got, []int{1, 2, 3}) {
		t.Errorf("All: %v", got)
	}
	if got := graph.Depth(l, 3); got != 3 {
		t.Errorf("Depth: %d", got)
	}
	if got := graph.Plan(l, 3); !slices.Equal(got, []int{5, 6, 5}) {
		t.Errorf("Plan: %v", got)
	}
	if got := graph.Drain(l); !slices.Equal(got, []int{5, 6, 5}) {
		t.Errorf("Drain: %v", got)
	}
	if got, is := graph.Next(l); got != 5 || !is {
		t.Errorf("Next: %d %v", got, is)
	}
	if got := graph.After(l, []int{6, 5}); !allAlike(got, l[1:]) {
		t.Errorf("After: %v", got)
	}
}

// Promises 11.1 and 11.3: by hand.
func TestOfOneByHand(t *testing.T) {
	a := of(0, 1)
	// 4 stands for itself; 6 needs what is done; 8 has bytes of 3 and of 7; 9 is as deep as the longer one of two ways.
	web := []api.Change{change(2, 1, a), change(3, 2, of(10, 1, 1), 2), change(4, 3, a), change(5, 1, of(100, 1), 3), change(6, 4, a, 1), change(7, 2, of(12, 1)), change(8, 2, of(11, 8, 8), 4), change(9, 4, of(200, 9), 2, 8)}
	far := []api.Change{change(1, 0, a), change(2, 0, of(255, 1)), change(math.MaxInt-1, math.MaxInt, of(0, many(256, 1)...), 2), change(math.MaxInt, math.MaxInt, of(255, 1), 1, 3)}
	for i, c := range []struct {
		l     []api.Change
		id    int
		all   []int
		depth int
		plan  []int
	}{
		{web, 2, []int{2}, 1, []int{1}}, {web, 3, []int{2, 3}, 2, []int{1, 2}}, {web, 4, []int{4}, 1, []int{3}}, {web, 5, []int{2, 3, 5}, 3, []int{1, 2, 1}}, {web, 6, []int{6}, 1, []int{4}}, {web, 7, []int{7}, 1, []int{2}},
		{web, 8, []int{2, 3, 4, 7, 8}, 3, []int{1, 2, 3, 2}}, {web, 9, []int{2, 3, 4, 7, 8, 9}, 4, []int{1, 2, 3, 2, 4}}, {web[1:], 9, []int{3, 4, 7, 8, 9}, 3, []int{2, 3, 2, 4}}, {web[6:], 9, []int{8, 9}, 2, []int{2, 4}}, {web[7:], 9, []int{9}, 1, []int{4}},
		{far, 1, []int{1}, 1, []int{0}}, {far, 2, []int{2}, 1, []int{0}}, {far, math.MaxInt - 1, []int{2, math.MaxInt - 1}, 2, []int{0, math.MaxInt}}, {far, math.MaxInt, []int{1, 2, math.MaxInt - 1, math.MaxInt}, 3, []int{0, math.MaxInt}},
		{[]api.Change{change(1, 5, a), change(2, 5, a), change(3, 5, a)}, 3, []int{1, 2, 3}, 3, []int{5}}, {[]api.Change{change(1, 5, a), change(2, 5, of(1, 1)), change(3, 5, of(0, 1, 1))}, 3, []int{1, 2, 3}, 2, []int{5}}, {[]api.Change{change(1, 5, a), change(2, 6, a), change(3, 7, a)}, 3, []int{3}, 1, []int{7}},
		{[]api.Change{change(1, 5, a), change(2, 5, of(1, 1), 1), change(3, 6, a, 2)}, 3, []int{1, 2, 3}, 3, []int{5, 6}}, {[]api.Change{change(1, 5, a), change(2, 6, a), change(3, 5, of(1, 1), 2), change(4, 6, of(1, 1), 1, 3)}, 4, []int{1, 2, 3, 4}, 3, []int{5, 6, 5, 6}},
	} {
		if got := graph.All(c.l, c.id); !slices.Equal(got, c.all) {
			t.Errorf("%d: All: %v, want %v", i, got, c.all)
		}
		if got := graph.Depth(c.l, c.id); got != c.depth {
			t.Errorf("%d: Depth: %d, want %d", i, got, c.depth)
		}
		if got := graph.Plan(c.l, c.id); !slices.Equal(got, c.plan) {
			t.Errorf("%d: Plan: %v, want %v", i, got, c.plan)
		}
		hold(t, c.l, c.id)
	}
	for _, l := range [][]api.Change{nil, {}, web, far} {
		for _, id := range []int{math.MinInt, -1, 0, 10, math.MaxInt - 2} {
			none(t, l, id)
		}
	}
}

// Promises 11.2 and 11.3: by hand.
func TestOfListsByHand(t *testing.T) {
	a := of(0, 1)
	chain := []api.Change{change(1, 5, a), change(2, 6, of(0, 2), 1), change(3, 5, of(0, 3), 2), change(4, 5, of(1, 4)), change(5, 0, a, 3), change(6, 0, of(1, 1), 1)}
	for i, c := range []struct {
		l            []api.Change
		blocks, left []int
		drain        []int
	}{
		{nil, nil, nil, nil}, {nil, []int{0, 5}, nil, nil}, {[]api.Change{}, []int{}, nil, nil},
		{chain, nil, []int{1, 2, 3, 4, 5, 6}, []int{5, 6, 5, 0}}, {chain, []int{5}, []int{2, 3, 5, 6}, []int{5, 6, 5, 0}}, {chain, []int{6, 0, 7, -1}, []int{1, 2, 3, 4, 5, 6}, []int{5, 6, 5, 0}}, {chain, []int{6, 5, 5, 0}, []int{2, 3, 5}, []int{5, 6, 5, 0}}, {chain, []int{5, 6, 0, 5}, []int{5}, []int{5, 6, 5, 0}}, {chain, []int{5, 6, 5, 0}, nil, []int{5, 6, 5, 0}}, {chain, []int{5, 6, 5, 0, 5, math.MinInt, math.MaxInt}, nil, []int{5, 6, 5, 0}},
		{chain[1:], []int{5}, []int{2, 3, 5, 6}, []int{6, 5, 0}}, {chain[2:], []int{0, 5}, []int{5}, []int{5, 0}}, {chain[4:], []int{5}, []int{5, 6}, []int{0}}, {chain[4:], []int{0}, nil, []int{0}},
		{[]api.Change{change(7, 0, a), change(8, math.MaxInt, a)}, []int{math.MaxInt}, []int{7}, []int{0, math.MaxInt}},
	} {
		var want []api.Change
		for _, id := range c.left {
			left, _ := ready.Find(c.l, id)
			want = append(want, left)
		}
		if got := graph.After(c.l, c.blocks); !allAlike(got, want) {
			t.Errorf("%d: After: %v, want %v", i, got, want)
		}
		if got := graph.Drain(c.l); !slices.Equal(got, c.drain) {
			t.Errorf("%d: Drain: %v, want %v", i, got, c.drain)
		}
		holdList(t, c.l, c.blocks)
	}
	for _, l := range [][]api.Change{chain, chain[1:], chain[4:], {change(1, 0, a)}} {
		if got, is := graph.Next(l); got != l[0].Block || !is {
			t.Errorf("Next of %v: %d %v", l, got, is)
		}
	}
}

// Promises 11.1 to 11.3: lists that may be, and any IDs and blocks; nothing that is handed in is changed.
func TestLists(t *testing.T) {
	for seed := range int64(400) {
		r, l := rand.New(rand.NewSource(seed)), some(seed)
		kept := copied(l)
		for _, id := range idsOf(l) {
			hold(t, l, id)
		}
		for range 10 {
			blocks := row(r)
			was := slices.Clone(blocks)
			holdList(t, l, blocks)
			if !slices.Equal(blocks, was) {
				t.Fatalf("the blocks were changed")
			}
		}
		if !allAlike(l, kept) {
			t.Fatalf("the list %d was changed", seed)
		}
	}
}

// small does what is handed on with each list of n changes of two blocks, that have either or both of two bytes, and need any of those ahead.
func small(n int, do func(l []api.Change)) {
	l := make([]api.Change, n)
	var next func(at int)
	next = func(at int) {
		if at == n {
			do(l)
			return
		}
		b := byte(at + 1)
		for _, p := range []api.Patch{of(0, b), of(1, b), of(0, b, b)} {
			for block := range 2 {
				for bits := range 1 << at {
					l[at] = change(at+1, block, p)
					for k := range at {
						if bits>>k&1 == 1 {
							l[at].Needs = append(l[at].Needs, k+1)
						}
					}
					next(at + 1)
				}
			}
		}
	}
	next(0)
}

// Promises 11.1 to 11.5: all small lists.
func TestSmallLists(t *testing.T) {
	for n := range 4 {
		small(n, func(l []api.Change) {
			for id := range n + 2 {
				hold(t, l, id)
				follows(t, l, id)
			}
			for _, blocks := range [][]int{{}, {0}, {1}, {0, 1}, {1, 0}, {1, 0, 1}, {0, 1, 0}} {
				holdList(t, l, blocks)
			}
			followsList(t, l)
		})
	}
}

// Promises 11.1 to 11.3: of a list that may not be nothing, and After it as it is, wherever its fault stands.
func TestOneFault(t *testing.T) {
	for seed := range int64(40) {
		l := some(seed)
		for i := range l {
			for k, fault := range faults() {
				wrong := copied(l)
				fault(&wrong[i])
				if ready.Check(wrong) == api.OK {
					t.Fatalf("the list %d may be, fault %d at %d", seed, k, i)
				}
				noneOfList(t, wrong)
			}
		}
	}
}

// Promises 11.1 to 11.3: lists that may not be, by hand: IDs that do not rise, and faults behind the change that is asked for.
func TestWrongByHand(t *testing.T) {
	p := of(0, 77)
	for _, l := range [][]api.Change{
		{{}}, {change(1, 5, p), change(1, 5, p)}, {change(2, 5, p), change(1, 5, p)}, {change(1, 5, p), change(2, 6, p), change(2, 7, p)}, {change(1, 5, p), change(2, 6, of(0))}, {change(1, 5, p), change(2, 6, of(256, 1))}, {change(1, 5, p), change(2, 6, p, 2)}, {change(1, 5, p), change(2, 6, p, 3), change(3, 6, p)}, {change(1, 5, p), change(2, -1, p)}, {change(0, 6, p), change(1, 5, p)}, {change(1, 5, p), change(math.MinInt, 5, p)}, {change(1, 5, p), change(3, 5, p, 2, 1)},
	} {
		noneOfList(t, l)
		none(t, l, 0)
	}
}

// follows holds the Plan of this ID against promise 11.4.
func follows(t *testing.T, l []api.Change, id int) {
	t.Helper()
	all, plan := graph.All(l, id), graph.Plan(l, id)
	if len(plan) > len(all) {
		t.Fatalf("Plan of %d in %v: %v, All is just %v", id, l, plan, all)
	}
	left := l
	for at, block := range plan {
		if _, is := ready.Find(left, id); !is {
			t.Fatalf("Plan of %d in %v: %v, and it is done behind %v", id, l, plan, plan[:at])
		}
		was := graph.All(left, id)
		_, left, _ = roll.Write(api.Block{}, left, block)
		if now := graph.All(left, id); len(now) >= len(was) {
			t.Fatalf("Plan of %d in %v: %v, and the step at %d does none of %v", id, l, plan, at, was)
		}
	}
	for _, done := range all {
		if _, is := ready.Find(left, done); is {
			t.Fatalf("Plan of %d in %v: %v, and %d is left", id, l, plan, done)
		}
	}
	if !allAlike(graph.After(l, plan), left) {
		t.Fatalf("Plan of %d in %v: %v, and After is not what is left", id, l, plan)
	}
}

// followsList holds the Drain of the list against promise 11.5, and 11.3: Next of what is left at each step.
func followsList(t *testing.T, l []api.Change) {
	t.Helper()
	drain := graph.Drain(l)
	for at, block := range drain {
		if next, is := graph.Next(graph.After(l, drain[:at])); next != block || !is {
			t.Fatalf("Drain of %v: %v, and Next at %d: %d %v", l, drain, at, next, is)
		}
	}
	if left := graph.After(l, drain); len(left) != 0 {
		t.Fatalf("Drain of %v: %v, and %v are left", l, drain, left)
	}
}

// Promises 11.4 and 11.5: greater lists.
func TestWhatFollows(t *testing.T) {
	for seed := range int64(300) {
		l := some(1000 + seed)
		for _, id := range idsOf(l) {
			follows(t, l, id)
		}
		followsList(t, l)
	}
}

// R4: what is told shares no memory with what was handed in, or with another answer.
func TestAnswersAreNew(t *testing.T) {
	shared, needs := []byte{1, 2, 3, 4, 5, 6}, []int{1, 2, 3, 4, 5, 6}
	l := []api.Change{change(7, 6, of(0, 1, 2)), change(8, 5, of(0, 3, 4), 3, 7), change(9, 5, of(9, 3), 1)}
	for id := 10; id < 15; id++ {
		l = append(l, api.Change{ID: id, Block: id%2 + 5, Patch: api.Patch{At: id * 10, Data: shared[:id-9]}, Needs: needs[:id-9]})
	}
	for _, l := range [][]api.Change{l, append(copied(l), change(1, 5, of(0, 1), 3))} {
		for _, blocks := range [][]int{nil, {5}, {6}} {
			kept, want := copied(l), copied(wantedAfter(l, blocks))
			one, two := graph.After(l, blocks), graph.After(l, blocks)
			for _, c := range one {
				clear(c.Patch.Data[:cap(c.Patch.Data)])
				clear(c.Needs[:cap(c.Needs)])
			}
			clear(one[:cap(one)])
			if !allAlike(l, kept) || !allAlike(two, want) || !allAlike(graph.After(l, blocks), want) {
				t.Fatalf("After %v of %v shares memory", blocks, l)
			}
		}
		for _, tell := range []func() []int{func() []int { return graph.All(l, 14) }, func() []int { return graph.Plan(l, 14) }, func() []int { return graph.Drain(l) }} {
			kept, one, two := copied(l), tell(), tell()
			want := slices.Clone(two)
			clear(one[:cap(one)])
			if !allAlike(l, kept) || !slices.Equal(two, want) || !slices.Equal(tell(), want) {
				t.Fatalf("an answer of %v shares memory", l)
			}
		}
	}
}

// P1: long lists are gone through without looking at each pair, and without going deep: each change meets the one ahead, or needs it in another block; all of them meet; each has a block of its own.
func TestLongLists(t *testing.T) {
	const n = 30000
	chain, heap, wide := make([]api.Change, n), make([]api.Change, n), make([]api.Change, n)
	whole := many(256, 1)
	for i := range n {
		chain[i] = change(i+1, i%2, of(i%256, 1))
		if i > 0 {
			chain[i].Needs = []int{i}
		}
		heap[i] = change(i+1, 3, of(0, whole...))
		wide[i] = change(i+1, n-i, of(i%256, 1))
	}
	for i, c := range []struct {
		l          []api.Change
		all, depth int
		plan, row  int
	}{{chain, n, n, n, n}, {heap, n, n, 1, 1}, {wide, 1, 1, 1, n}} {
		if got := graph.All(c.l, n); len(got) != c.all {
			t.Errorf("%d: All has %d", i, len(got))
		}
		if got := graph.Depth(c.l, n); got != c.depth {
			t.Errorf("%d: Depth is %d", i, got)
		}
		if got := graph.Plan(c.l, n); len(got) != c.plan {
			t.Errorf("%d: Plan has %d", i, len(got))
		}
		row := graph.Drain(c.l)
		if len(row) != c.row {
			t.Errorf("%d: Drain has %d", i, len(row))
		}
		if got := graph.After(c.l, row); len(got) != 0 {
			t.Errorf("%d: After has %d", i, len(got))
		}
		if got := graph.After(c.l, row[:len(row)-1]); len(got) != n/len(row) {
			t.Errorf("%d: After all but one has %d", i, len(got))
		}
	}
}
