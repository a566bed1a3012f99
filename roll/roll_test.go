package roll_test

import (
	"math"
	"math/rand"
	"slices"
	"testing"

	"escheat/api"
	"escheat/patch"
	"escheat/ready"
	"escheat/roll"
)

func of(at int, data ...byte) api.Patch {
	return api.Patch{At: at, Data: data}
}

func change(id, block int, p api.Patch, needs ...int) api.Change {
	return api.Change{ID: id, Block: block, Patch: p, Needs: needs}
}

// many tells n bytes that are all b.
func many(n int, b byte) []byte {
	return slices.Repeat([]byte{b}, n)
}

func copied(l []api.Change) []api.Change {
	kept := slices.Clone(l)
	for i := range kept {
		kept[i].Patch.Data = slices.Clone(l[i].Patch.Data)
		kept[i].Needs = slices.Clone(l[i].Needs)
	}
	return kept
}

func alike(c, d api.Change) bool {
	return c.ID == d.ID && c.Block == d.Block && patch.Same(c.Patch, d.Patch) && slices.Equal(c.Needs, d.Needs)
}

func allAlike(l, m []api.Change) bool {
	return slices.EqualFunc(l, m, alike)
}

// bytesOf tells a block that is noughts but for the bytes at these places.
func bytesOf(at map[int]byte) api.Block {
	var b api.Block
	for place, to := range at {
		b[place] = to
	}
	return b
}

// noise tells a block of any bytes, always the same of the same seed.
func noise(seed int64) api.Block {
	var b api.Block
	r := rand.New(rand.NewSource(seed))
	for at := range b {
		b[at] = byte(r.Intn(4))
	}
	return b
}

// want is what the calls ought to tell of a block.
type want struct {
	view, image api.Block
	done, held  []int
	left        []api.Change
}

// wanted tells byte by byte what the calls ought to tell.
func wanted(base api.Block, l []api.Change, block int) want {
	w := want{view: base, image: base, left: l}
	if ready.Check(l) != api.OK {
		return w
	}
	w.left = nil
	in := ready.Ready(l, block)
	for _, c := range l {
		is := slices.Contains(in, c.ID)
		if !is {
			w.left = append(w.left, c)
		}
		if c.Block != block {
			continue
		}
		for i, to := range c.Patch.Data {
			w.view[c.Patch.At+i] = to
			if is {
				w.image[c.Patch.At+i] = to
			}
		}
		if is {
			w.done = append(w.done, c.ID)
		} else {
			w.held = append(w.held, c.ID)
		}
	}
	return w
}

// leads tells whether the patches are those, rising and as long as can be, that have just b's bytes where a and b are unlike.
func leads(l []api.Patch, a, b api.Block) bool {
	last := -1
	for _, p := range l {
		if p.At <= last || len(p.Data) == 0 || p.At+len(p.Data) > 256 {
			return false
		}
		last = p.At + len(p.Data)
		for i, to := range p.Data {
			if a[p.At+i] == to {
				return false
			}
			a[p.At+i] = to
		}
	}
	return a == b
}

// hold holds each call against what it ought to tell of the block.
func hold(t *testing.T, base api.Block, l []api.Change, block int, w want) {
	t.Helper()
	if got := roll.View(base, l, block); got != w.view {
		t.Fatalf("View of the block %d in %v: %v, want %v", block, l, got, w.view)
	}
	if got, done := roll.Image(base, l, block); got != w.image || !slices.Equal(done, w.done) {
		t.Fatalf("Image of the block %d in %v: %v %v, want %v %v", block, l, got, done, w.image, w.done)
	}
	if got, left, done := roll.Write(base, l, block); got != w.image || !allAlike(left, w.left) || !slices.Equal(done, w.done) {
		t.Fatalf("Write of the block %d in %v: %v %v %v, want %v %v %v", block, l, got, left, done, w.image, w.left, w.done)
	}
	if got := roll.Held(l, block); !slices.Equal(got, w.held) {
		t.Fatalf("Held of the block %d in %v: %v, want %v", block, l, got, w.held)
	}
	if got := roll.Back(base, l, block); !leads(got, w.view, w.image) {
		t.Fatalf("Back of the block %d in %v: %v", block, l, got)
	}
}

// some tells a list that may be, always the same of the same seed: few blocks, patches that meet often or seldom, of few kinds of bytes, and needs that the list has or not.
func some(seed int64) []api.Change {
	r := rand.New(rand.NewSource(seed))
	blocks, room, gap, few := 1+r.Intn(4), 1+r.Intn(256), 1+r.Intn(3), 1+r.Intn(12)
	var l []api.Change
	id := r.Intn(3)
	for range r.Intn(40) {
		id += 1 + r.Intn(gap)
		at := r.Intn(room)
		data := make([]byte, 1+r.Intn(min(256-at, 1+room/4)))
		for i := range data {
			data[i] = byte(r.Intn(4))
		}
		c := change(id, r.Intn(blocks), of(at, data...))
		for need := 1; need < id; need++ {
			if r.Intn(8*few) == 0 {
				c.Needs = append(c.Needs, need)
			}
		}
		l = append(l, c)
	}
	return l
}

// faults make a change, and so its list, one that may not be.
func faults() []func(c *api.Change) {
	return []func(c *api.Change){
		func(c *api.Change) { c.ID = 0 }, func(c *api.Change) { c.ID = -c.ID }, func(c *api.Change) { c.Block = -1 }, func(c *api.Change) { c.Block = math.MinInt },
		func(c *api.Change) { c.Patch.Data = nil }, func(c *api.Change) { c.Patch.At = -1 }, func(c *api.Change) { c.Patch.At = 256 }, func(c *api.Change) { c.Patch.At = math.MaxInt }, func(c *api.Change) { c.Patch.Data = many(257, 9) },
		func(c *api.Change) { c.Needs = append(c.Needs, c.ID) }, func(c *api.Change) { c.Needs = []int{0} }, func(c *api.Change) { c.Needs = []int{-1, 1} }, func(c *api.Change) { c.Needs = []int{1, 1} },
	}
}

// blocksOf are those that the list tells, those beside them, and the edges.
func blocksOf(l []api.Change) []int {
	n := []int{math.MinInt, -1, 0, 1, 2, 3, 5, 512, math.MaxInt}
	for _, c := range l {
		n = append(n, c.Block, c.Block+1)
	}
	slices.Sort(n)
	return slices.Compact(n)
}

// The chapter's example, and all calls of it.
func TestExample(t *testing.T) {
	base := noise(1)
	l := []api.Change{change(1, 5, of(9, 7)), change(2, 6, of(0, 8), 1)}
	with := base
	with[0] = 8
	if got, done := roll.Image(base, l, 6); got != base || len(done) != 0 {
		t.Errorf("Image: %v %v", got, done)
	}
	if got := roll.View(base, l, 6); got != with {
		t.Errorf("View: %v", got)
	}
	if got := roll.Held(l, 6); !slices.Equal(got, []int{2}) {
		t.Errorf("Held: %v", got)
	}
	if got := roll.Back(base, l, 6); len(got) != 1 || !patch.Same(got[0], of(0, base[0])) {
		t.Errorf("Back: %v", got)
	}
	if got, left, done := roll.Write(base, l, 6); got != base || !allAlike(left, l) || len(done) != 0 {
		t.Errorf("Write: %v %v %v", got, left, done)
	}
	if got, left, done := roll.Write(base, l[1:], 6); got != with || len(left) != 0 || !slices.Equal(done, []int{2}) {
		t.Errorf("Write behind block 5: %v %v %v", got, left, done)
	}
}

// Promises 10.1 to 10.3: by hand.
func TestByHand(t *testing.T) {
	type bytes = map[int]byte
	a := of(0, 1)
	chain := []api.Change{change(1, 5, a), change(2, 6, of(0, 2), 1), change(3, 5, of(0, 3), 2), change(4, 5, of(1, 4)), change(5, 5, of(1, 5))}
	wide := []api.Change{change(2, 9, a), change(3, 7, of(10, 1, 1, 1), 2), change(4, 7, of(9, 2)), change(6, 7, of(12, 3, 3)), change(7, 7, of(13, 4)), change(8, 7, of(255, 5), 1, 5), change(9, 7, of(254, 6), 8)}
	for i, c := range []struct {
		l           []api.Change
		block       int
		view, image bytes
		done, held  []int
		left        []int
	}{
		{nil, 0, nil, nil, nil, nil, nil}, {[]api.Change{}, 5, nil, nil, nil, nil, nil},
		{chain[:1], 5, bytes{0: 1}, bytes{0: 1}, []int{1}, nil, nil}, {chain[:1], 4, nil, nil, nil, nil, []int{1}}, {chain[:1], -1, nil, nil, nil, nil, []int{1}},
		{chain, 5, bytes{0: 3, 1: 5}, bytes{0: 1, 1: 5}, []int{1, 4, 5}, []int{3}, []int{2, 3}}, {chain, 6, bytes{0: 2}, nil, nil, []int{2}, []int{1, 2, 3, 4, 5}}, {chain, 7, nil, nil, nil, nil, []int{1, 2, 3, 4, 5}},
		{chain[1:3], 6, bytes{0: 2}, bytes{0: 2}, []int{2}, nil, []int{3}}, {chain[1:3], 5, bytes{0: 3}, nil, nil, []int{3}, []int{2, 3}}, {chain[2:], 5, bytes{0: 3, 1: 5}, bytes{0: 3, 1: 5}, []int{3, 4, 5}, nil, nil},
		{wide, 7, bytes{9: 2, 10: 1, 11: 1, 12: 3, 13: 4, 254: 6, 255: 5}, bytes{9: 2, 254: 6, 255: 5}, []int{4, 8, 9}, []int{3, 6, 7}, []int{2, 3, 6, 7}}, {wide, 9, bytes{0: 1}, bytes{0: 1}, []int{2}, nil, []int{3, 4, 6, 7, 8, 9}}, {wide[1:], 7, bytes{9: 2, 10: 1, 11: 1, 12: 3, 13: 4, 254: 6, 255: 5}, bytes{9: 2, 10: 1, 11: 1, 12: 3, 13: 4, 254: 6, 255: 5}, []int{3, 4, 6, 7, 8, 9}, nil, nil},
		{[]api.Change{change(1, 5, a), change(2, 5, of(0, 2)), change(3, 5, of(0, 3))}, 5, bytes{0: 3}, bytes{0: 3}, []int{1, 2, 3}, nil, nil}, {[]api.Change{change(1, 5, of(0, 3)), change(2, 5, of(0, 2)), change(3, 5, a)}, 5, bytes{0: 1}, bytes{0: 1}, []int{1, 2, 3}, nil, nil},
		{[]api.Change{change(1, 0, a), change(math.MaxInt, math.MaxInt, a, 1, math.MaxInt-1)}, math.MaxInt, bytes{0: 1}, nil, nil, []int{math.MaxInt}, []int{1, math.MaxInt}}, {[]api.Change{change(math.MaxInt, math.MaxInt, a, 1, math.MaxInt-1)}, math.MaxInt, bytes{0: 1}, bytes{0: 1}, []int{math.MaxInt}, nil, nil},
	} {
		w := want{view: bytesOf(c.view), image: bytesOf(c.image), done: c.done, held: c.held}
		for _, id := range c.left {
			left, _ := ready.Find(c.l, id)
			w.left = append(w.left, left)
		}
		t.Logf("case %d", i)
		hold(t, api.Block{}, c.l, c.block, w)
	}
}

// Promises 10.1 and 10.2: what the base has stays wherever no change is laid; what a change writes is there though it is what the base has.
func TestBaseStays(t *testing.T) {
	base := noise(2)
	l := []api.Change{change(1, 4, of(0, 1)), change(2, 3, of(100, many(56, 9)...)), change(3, 3, of(120, many(10, 8)...), 1), change(4, 3, of(200, base[200:210]...))}
	view, image := base, base
	copy(view[100:], many(56, 9))
	copy(image[100:], many(56, 9))
	copy(view[120:], many(10, 8))
	hold(t, base, l, 3, want{view: view, image: image, done: []int{2, 4}, held: []int{3}, left: []api.Change{l[0], l[2]}})
	if got := roll.Back(base, l, 3); len(got) != 1 || !patch.Same(got[0], of(120, many(10, 9)...)) {
		t.Errorf("Back: %v", got)
	}
}

// Promise 10.3: a run of unlike bytes each; none where what is held writes what is there.
func TestBackByHand(t *testing.T) {
	base := bytesOf(map[int]byte{3: 3, 255: 7})
	l := []api.Change{change(1, 6, of(0, 1)), change(2, 5, of(0, 1, 2, 0, 3, 4), 1), change(3, 5, of(250, many(6, 9)...), 1), change(4, 5, of(255, 7)), change(5, 5, of(100, 0), 1), change(6, 5, of(101, 6))}
	for i, c := range []struct {
		l    []api.Change
		want []api.Patch
	}{
		{l, []api.Patch{of(0, 0, 0), of(4, 0), of(250, 0, 0, 0, 0, 0)}}, {l[1:], nil}, {l[:3], []api.Patch{of(0, 0, 0), of(4, 0), of(250, 0, 0, 0, 0, 0, 7)}}, {l[:2], []api.Patch{of(0, 0, 0), of(4, 0)}}, {l[:1], nil}, {nil, nil},
	} {
		if got := roll.Back(base, c.l, 5); !slices.EqualFunc(got, c.want, patch.Same) {
			t.Errorf("%d: Back: %v, want %v", i, got, c.want)
		}
	}
}

// Promises 10.1 to 10.3: lists that may be, and any blocks; nothing that is handed in is changed.
func TestLists(t *testing.T) {
	for seed := range int64(500) {
		l, base := some(seed), noise(seed)
		kept := copied(l)
		for _, block := range blocksOf(l) {
			hold(t, base, l, block, wanted(base, l, block))
		}
		if !allAlike(l, kept) {
			t.Fatalf("the list %d was changed", seed)
		}
	}
}

// Promises 10.1 to 10.3: of a list that may not be the base and none, the list as it is, and nothing held, wherever its fault stands.
func TestOneFault(t *testing.T) {
	for seed := range int64(60) {
		l, base := some(seed), noise(seed)
		for i := range l {
			for k, fault := range faults() {
				wrong := copied(l)
				fault(&wrong[i])
				if ready.Check(wrong) == api.OK {
					t.Fatalf("the list %d may be, fault %d at %d", seed, k, i)
				}
				for block := -1; block < 5; block++ {
					hold(t, base, wrong, block, want{view: base, image: base, left: wrong})
				}
			}
		}
	}
}

// Promises 10.1 to 10.3: lists that may not be, by hand: IDs that do not rise; what looks fine of one block, with a fault in another one.
func TestWrongByHand(t *testing.T) {
	base, p := noise(3), of(0, 77)
	for _, l := range [][]api.Change{
		{{}}, {change(1, 5, p), change(1, 5, p)}, {change(2, 5, p), change(1, 5, p)}, {change(1, 5, p), change(2, 6, p), change(2, 7, p)}, {change(1, 5, p), change(2, 6, of(0))}, {change(1, 5, p), change(2, 6, of(256, 1))}, {change(1, 5, p), change(2, 6, p, 2)}, {change(1, 5, p), change(2, -1, p)}, {change(0, 6, p), change(1, 5, p)}, {change(1, 5, p), change(math.MinInt, 5, p)}, {change(1, 5, p), change(3, 5, p, 2, 1)},
	} {
		for _, block := range []int{-1, 0, 5, 6, math.MinInt, math.MaxInt} {
			hold(t, base, l, block, want{view: base, image: base, left: l})
			if got := roll.Back(base, l, block); len(got) != 0 {
				t.Errorf("Back of the block %d in %v: %v", block, l, got)
			}
		}
	}
}

// follows holds a Write of the block against promises 10.4 and 10.5, and tells what is left.
func follows(t *testing.T, base api.Block, l []api.Change, block int) (api.Block, []api.Change) {
	t.Helper()
	image, left, done := roll.Write(base, l, block)
	if got, was := roll.View(image, left, block), roll.View(base, l, block); got != was {
		t.Fatalf("the view of the block %d in %v was %v, and is %v", block, l, was, got)
	}
	all := slices.Clone(done)
	for _, c := range left {
		all = append(all, c.ID)
	}
	slices.Sort(all)
	if !slices.EqualFunc(l, all, func(c api.Change, id int) bool { return c.ID == id }) {
		t.Fatalf("of %v are done %v, left are %v", l, done, left)
	}
	if held := roll.Held(l, block); len(held) == 0 && (image != roll.View(base, l, block) || len(roll.Back(base, l, block)) != 0) {
		t.Fatalf("nothing is held of the block %d in %v, but view and image are not the same", block, l)
	} else if now := roll.Held(left, block); !slices.Equal(held, now) {
		t.Fatalf("of the block %d in %v are held %v, and then %v", block, l, held, now)
	}
	again, still, none := roll.Write(image, left, block)
	if again != image || !allAlike(still, left) || len(none) != 0 {
		t.Fatalf("the block %d in %v, written again: %v, %v are done", block, l, again, none)
	}
	return image, left
}

// small does what is handed on with each list of n changes of two blocks, that have either or both of two bytes, and need any of those ahead.
func small(n int, do func(l []api.Change)) {
	l := make([]api.Change, n)
	var next func(at int)
	next = func(at int) {
		if at == n {
			do(l)
			return
		}
		b := byte(at + 1)
		for _, p := range []api.Patch{of(0, b), of(1, b), of(0, b, b)} {
			for block := range 2 {
				for bits := range 1 << at {
					l[at] = change(at+1, block, p)
					for k := range at {
						if bits>>k&1 == 1 {
							l[at].Needs = append(l[at].Needs, k+1)
						}
					}
					next(at + 1)
				}
			}
		}
	}
	next(0)
}

// Promises 10.1 to 10.5: all small lists.
func TestSmallLists(t *testing.T) {
	for n := range 4 {
		small(n, func(l []api.Change) {
			for block := range 2 {
				hold(t, api.Block{}, l, block, wanted(api.Block{}, l, block))
				follows(t, api.Block{}, l, block)
			}
		})
	}
}

// Promises 10.4 and 10.5: blocks are written in any order, till nothing is left: their views stay, and are what the device has at last.
func TestTillNothingIsLeft(t *testing.T) {
	for seed := range int64(300) {
		r, l := rand.New(rand.NewSource(seed)), some(seed)
		device, views := map[int]api.Block{}, map[int]api.Block{}
		for _, block := range ready.Blocks(l) {
			device[block] = noise(int64(block))
			views[block] = roll.View(device[block], l, block)
		}
		for len(l) > 0 {
			block := l[0].Block
			if blocks := ready.Blocks(l); r.Intn(2) == 0 {
				block = blocks[r.Intn(len(blocks))]
			}
			device[block], l = follows(t, device[block], l, block)
			for other, view := range views {
				if got := roll.View(device[other], l, other); got != view {
					t.Fatalf("the list %d: behind block %d the view of %d is %v, and was %v", seed, block, other, got, view)
				}
			}
		}
		for block, view := range views {
			if device[block] != view {
				t.Fatalf("the list %d: at last block %d is %v, and its view was %v", seed, block, device[block], view)
			}
		}
	}
}

// Promise 10.2, "and go on behind": at each step the device has just what is done, in order.
func TestDeviceHasWhatIsDone(t *testing.T) {
	for seed := range int64(100) {
		l, base := some(seed), noise(seed)
		first, device := l, map[int]api.Block{}
		for _, block := range ready.Blocks(l) {
			device[block] = base
		}
		for len(l) > 0 {
			for _, block := range ready.Blocks(l) {
				device[block], l, _ = roll.Write(device[block], l, block)
				has := base
				for _, c := range ready.Of(first, block) {
					if _, is := ready.Find(l, c.ID); !is {
						copy(has[c.Patch.At:], c.Patch.Data)
					}
				}
				if device[block] != has {
					t.Fatalf("the list %d: block %d is %v, want %v", seed, block, device[block], has)
				}
			}
		}
	}
}

// spoil changes all that an answer has, and what lies past its end.
func spoil(left []api.Change, numbers []int, patches []api.Patch) {
	for _, c := range left {
		patches = append(patches, c.Patch)
		clear(c.Needs[:cap(c.Needs)])
	}
	for _, p := range patches {
		clear(p.Data[:cap(p.Data)])
	}
	clear(numbers[:cap(numbers)])
	clear(left[:cap(left)])
}

// R4: what is told shares no memory with what was handed in, or with another answer.
func TestAnswersAreNew(t *testing.T) {
	shared, ids := []byte{1, 2, 3, 4, 5, 6}, []int{1, 2, 3, 4, 5, 6}
	l := []api.Change{change(7, 6, of(0, 1, 2)), change(8, 5, of(0, 3, 4), 3, 7), change(9, 5, of(9, 3), 1)}
	for id := 10; id < 15; id++ {
		l = append(l, api.Change{ID: id, Block: id%2 + 5, Patch: api.Patch{At: id * 10, Data: shared[:id-9]}, Needs: ids[:id-9]})
	}
	wrong := append(copied(l), change(1, 5, of(0, 1), 3))
	for _, l := range [][]api.Change{l, wrong} {
		w := wanted(api.Block{}, copied(l), 5)
		kept, keptLeft := copied(l), copied(w.left)
		_, others, same := roll.Write(api.Block{}, l, 5)
		_, left, done := roll.Write(api.Block{}, l, 5)
		_, in := roll.Image(api.Block{}, l, 5)
		spoil(left, done, roll.Back(api.Block{}, l, 5))
		spoil(nil, in, nil)
		spoil(nil, roll.Held(l, 5), nil)
		if !allAlike(l, kept) || !allAlike(others, keptLeft) || !slices.Equal(same, w.done) {
			t.Error("an answer is no new memory")
		}
		hold(t, api.Block{}, l, 5, w)
	}
}

// R4: no two changes that are left share memory.
func TestChangesAreNew(t *testing.T) {
	shared, ids := []byte{1, 2, 3, 4}, []int{1, 2, 3, 4}
	l := []api.Change{change(5, 6, of(0, 1))}
	for id := 6; id < 10; id++ {
		l = append(l, api.Change{ID: id, Block: 5, Patch: api.Patch{Data: shared[:id-5]}, Needs: ids[:id-5]})
	}
	_, left, _ := roll.Write(api.Block{}, l, 6)
	want := copied(left)
	for i := range left {
		spoil(left[i:i+1:i+1], nil, nil)
		if len(left) != 4 || !allAlike(left[i+1:], want[i+1:]) {
			t.Fatalf("the change %d that is left shares memory with one behind it", i)
		}
	}
}

// Promise P1: long lists end: of one block and of many, of changes that are all ready, and such that are held.
func TestLongLists(t *testing.T) {
	const n = 1 << 17
	for _, blocks := range []int{1, 2, 512} {
		l := make([]api.Change, n)
		for i := range l {
			l[i] = change(i+1, i%blocks, of(i%250, byte(i), byte(i), byte(i)))
			if i > 0 {
				l[i].Needs = []int{i}
			}
		}
		of, done := n/blocks, 1
		if blocks == 1 {
			done = n
		}
		image, left, ids := roll.Write(api.Block{}, l, 0)
		if len(left) != n-done || len(ids) != done || ids[0] != 1 || len(roll.Held(l, 0)) != of-done {
			t.Errorf("%d blocks: %d are left, %d are done", blocks, len(left), len(ids))
		}
		if got := roll.View(image, left, 0); got != roll.View(api.Block{}, l, 0) || got != wantedView(l, 0) {
			t.Errorf("%d blocks: the view is %v", blocks, got)
		}
		if got, ids := roll.Image(api.Block{}, l, 1); got != (api.Block{}) || len(ids) != 0 {
			t.Errorf("%d blocks: %v are ready of the second one", blocks, ids)
		}
	}
}

// wantedView tells the noughts with all changes of the block.
func wantedView(l []api.Change, block int) api.Block {
	var b api.Block
	for _, c := range l {
		if c.Block == block {
			copy(b[c.Patch.At:], c.Patch.Data)
		}
	}
	return b
}
