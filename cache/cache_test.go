package cache_test

import (
	"math"
	"math/rand"
	"slices"
	"testing"

	"escheat/api"
	"escheat/cache"
	"escheat/disk"
	"escheat/patch"
	"escheat/ready"
	"escheat/roll"
)

func of(at int, data ...byte) api.Patch {
	return api.Patch{At: at, Data: data}
}

func change(id, block int, p api.Patch, needs ...int) api.Change {
	return api.Change{ID: id, Block: block, Patch: p, Needs: needs}
}

// many tells n bytes that are all b.
func many(n int, b byte) []byte {
	return slices.Repeat([]byte{b}, n)
}

func copied(l []api.Change) []api.Change {
	kept := slices.Clone(l)
	for i := range kept {
		kept[i].Patch.Data = slices.Clone(l[i].Patch.Data)
		kept[i].Needs = slices.Clone(l[i].Needs)
	}
	return kept
}

func alike(c, d api.Change) bool {
	return c.ID == d.ID && c.Block == d.Block && patch.Same(c.Patch, d.Patch) && slices.Equal(c.Needs, d.Needs)
}

func allAlike(l, m []api.Change) bool {
	return slices.EqualFunc(l, m, alike)
}

// noise tells n blocks of any bytes, none like another one, always the same of the same seed.
func noise(n, seed int) []api.Block {
	l := make([]api.Block, n)
	for no := range l {
		for at := range l[no] {
			l[no][at] = byte(seed + no + at*(2*no+7)>>2)
		}
	}
	return l
}

// device tells one that has the blocks of noise.
func device(t *testing.T, n, seed int) *disk.Disk {
	t.Helper()
	d, err := disk.From(noise(n, seed))
	if err != api.OK {
		t.Fatal(err)
	}
	return d
}

// laid tells the block with the patches laid into it byte by byte, in order.
func laid(b api.Block, l ...api.Patch) api.Block {
	for _, p := range l {
		for i, to := range p.Data {
			b[p.At+i] = to
		}
	}
	return b
}

// put makes a change that has to be made with this number.
func put(t *testing.T, c *cache.Cache, id, no int, p api.Patch, needs ...int) {
	t.Helper()
	if got, err := c.Put(no, p, needs...); got != id || err != api.OK {
		t.Fatalf("Put(%d, %v, %v): %d %v, want %d", no, p, needs, got, err, id)
	}
}

func flush(t *testing.T, c *cache.Cache, blocks ...int) {
	t.Helper()
	for _, no := range blocks {
		if err := c.Flush(no); err != api.OK {
			t.Fatalf("Flush(%d): %v", no, err)
		}
	}
}

func get(t *testing.T, c *cache.Cache, no int, want api.Block) {
	t.Helper()
	if got, err := c.Get(no); got != want || err != api.OK {
		t.Fatalf("Get(%d): %v %v, want %v", no, got, err, want)
	}
}

func ids(l []api.Change) []int {
	var told []int
	for _, c := range l {
		told = append(told, c.ID)
	}
	return told
}

// pair is a cache, and what it ought to be: the whole list, written block by block as package roll does it, on a device that is the twin of the cache's own.
type pair struct {
	c       *cache.Cache
	d, twin *disk.Disk
	base    map[int]api.Block
	list    []api.Change
	last    int
}

func newPair(t *testing.T, n, seed int) *pair {
	t.Helper()
	d := device(t, n, seed)
	return &pair{c: cache.New(d), d: d, twin: device(t, n, seed), base: map[int]api.Block{}}
}

func (p *pair) known(no int) api.Errno {
	if _, is := p.base[no]; is {
		return api.OK
	}
	b, err := p.twin.Read(no)
	if err == api.OK {
		p.base[no] = b
	}
	return err
}

func (p *pair) wantedGet(no int) (api.Block, api.Errno) {
	if err := p.known(no); err != api.OK {
		return api.Block{}, err
	}
	return roll.View(p.base[no], p.list, no), api.OK
}

func (p *pair) wantedPut(no int, is api.Patch, needs []int) (int, api.Errno) {
	if patch.Check(is) != api.OK {
		return 0, api.ErrArg
	}
	var left []int
	for _, need := range needs {
		if need < 1 || need > p.last {
			return 0, api.ErrArg
		}
		if _, has := ready.Find(p.list, need); has {
			left = append(left, need)
		}
	}
	if err := p.known(no); err != api.OK {
		return 0, err
	}
	slices.Sort(left)
	p.last++
	p.list = append(p.list, change(p.last, no, is, slices.Compact(left)...))
	return p.last, api.OK
}

func (p *pair) wantedFlush(no int) api.Errno {
	image, left, done := roll.Write(p.base[no], p.list, no)
	if len(done) == 0 {
		return api.OK
	}
	if err := p.twin.Write(no, image); err != api.OK {
		return err
	}
	p.base[no], p.list = image, left
	return api.OK
}

func (p *pair) wantedUpto(id int) api.Errno {
	for len(p.list) > 0 && p.list[0].ID <= id {
		if err := p.wantedFlush(p.list[0].Block); err != api.OK {
			return err
		}
	}
	return api.OK
}

func (p *pair) get(t *testing.T, no int) {
	t.Helper()
	want, bad := p.wantedGet(no)
	if got, err := p.c.Get(no); got != want || err != bad {
		t.Fatalf("Get(%d): %v %v, want %v %v", no, got, err, want, bad)
	}
}

func (p *pair) put(t *testing.T, no int, is api.Patch, needs ...int) {
	t.Helper()
	data, kept := slices.Clone(is.Data), slices.Clone(needs)
	want, bad := p.wantedPut(no, api.Patch{At: is.At, Data: data}, kept)
	if got, err := p.c.Put(no, is, needs...); got != want || err != bad {
		t.Fatalf("Put(%d, %v, %v): %d %v, want %d %v", no, is, needs, got, err, want, bad)
	}
	if !slices.Equal(is.Data, data) || !slices.Equal(needs, kept) {
		t.Fatalf("Put(%d) changed what was handed in", no)
	}
}

func (p *pair) flush(t *testing.T, no int) {
	t.Helper()
	want := p.wantedFlush(no)
	if err := p.c.Flush(no); err != want {
		t.Fatalf("Flush(%d): %v, want %v", no, err, want)
	}
}

func (p *pair) upto(t *testing.T, id int) {
	t.Helper()
	want := p.wantedUpto(id)
	if err := p.c.Upto(id); err != want {
		t.Fatalf("Upto(%d): %v, want %v", id, err, want)
	}
}

func (p *pair) sync(t *testing.T) {
	t.Helper()
	want := p.wantedUpto(math.MaxInt)
	if err := p.c.Sync(); err != want {
		t.Fatalf("Sync: %v, want %v", err, want)
	}
}

func (p *pair) fuse(n int) {
	p.d.Fuse(n)
	p.twin.Fuse(n)
}

func (p *pair) up() {
	p.d.Up()
	p.twin.Up()
}

// same fails, unless the cache tells of itself what it ought to, and the device was used just as it ought to be.
func (p *pair) same(t *testing.T, when string) {
	t.Helper()
	if got := p.c.Last(); got != p.last {
		t.Fatalf("%s: Last is %d, want %d", when, got, p.last)
	}
	if got := p.c.Left(); !allAlike(got, p.list) {
		t.Fatalf("%s: Left is %v, want %v", when, got, p.list)
	}
	if got := p.c.Dirty(); !slices.Equal(got, ready.Blocks(p.list)) {
		t.Fatalf("%s: Dirty is %v, of %v", when, got, p.list)
	}
	for id := -1; id <= p.last+2; id++ {
		_, left := ready.Find(p.list, id)
		if got := p.c.Done(id); got != (id >= 1 && id <= p.last && !left) {
			t.Fatalf("%s: Done(%d) is %v, of %v", when, id, got, p.list)
		}
	}
	if p.d.Down() != p.twin.Down() || p.d.Writes() != p.twin.Writes() || p.d.Reads() != p.twin.Reads() {
		t.Fatalf("%s: down %v, %d writes, %d reads; want %v, %d, %d", when, p.d.Down(), p.d.Writes(), p.d.Reads(), p.twin.Down(), p.twin.Writes(), p.twin.Reads())
	}
	if !slices.Equal(p.d.Image(), p.twin.Image()) {
		t.Fatalf("%s: other blocks", when)
	}
}

// The chapter's example, and all calls of it.
func TestExample(t *testing.T) {
	d, was := device(t, 16, 1), noise(16, 1)
	c := cache.New(d)
	put(t, c, 1, 3, of(0, 7, 8))
	put(t, c, 2, 4, of(9, 1), 1)
	three, four := laid(was[3], of(0, 7, 8)), laid(was[4], of(9, 1))
	flush(t, c, 4)
	if got := d.Image(); !slices.Equal(got, was) || d.Writes() != 0 {
		t.Errorf("behind Flush(4) the device has other blocks")
	}
	if got := c.Left(); !allAlike(got, []api.Change{change(1, 3, of(0, 7, 8)), change(2, 4, of(9, 1), 1)}) || !slices.Equal(c.Dirty(), []int{3, 4}) {
		t.Errorf("Left: %v, Dirty: %v", got, c.Dirty())
	}
	flush(t, c, 3)
	if got := d.Image(); got[3] != three || got[4] != was[4] || !c.Done(1) || c.Done(2) || !slices.Equal(c.Dirty(), []int{4}) {
		t.Errorf("behind Flush(3): %v, Left: %v", got, c.Left())
	}
	flush(t, c, 4)
	was[3], was[4] = three, four
	if got := d.Image(); !slices.Equal(got, was) || !c.Done(2) || len(c.Left()) != 0 || len(c.Dirty()) != 0 || c.Last() != 2 {
		t.Errorf("behind Flush(4): %v, Left: %v", got, c.Left())
	}
	get(t, c, 3, three)
	get(t, c, 4, four)
	if d.Writes() != 2 || d.Reads() != 2 {
		t.Errorf("%d writes, %d reads", d.Writes(), d.Reads())
	}
}

// Promise 12.1: a cache of a device, or nil; it has read nothing, and has no changes.
func TestNew(t *testing.T) {
	if got := cache.New(nil); got != nil {
		t.Errorf("New(nil): %v", got)
	}
	for _, n := range []int{16, 512} {
		d := disk.New(n)
		c := cache.New(d)
		if c == nil || c.Last() != 0 || len(c.Left()) != 0 || len(c.Dirty()) != 0 || d.Reads() != 0 || d.Writes() != 0 || d.Down() {
			t.Errorf("New of %d blocks: %d reads, %d writes", n, d.Reads(), d.Writes())
		}
		for _, id := range []int{math.MinInt, -1, 0, 1, 2, math.MaxInt} {
			if c.Done(id) {
				t.Errorf("Done(%d) of a new one", id)
			}
		}
	}
}

// Promise 12.1: a block is read when it is asked for the first time; each time, till it is known, its error is told.
func TestGet(t *testing.T) {
	for _, n := range []int{16, 17, 512} {
		d, was := device(t, n, 2), noise(n, 2)
		c := cache.New(d)
		for _, no := range []int{math.MinInt, -512, -1, n, n + 1, math.MaxInt32, math.MaxInt} {
			for range 2 {
				if b, err := c.Get(no); b != (api.Block{}) || err != api.ErrRange {
					t.Fatalf("Get(%d) of %d: %v %v", no, n, b, err)
				}
			}
		}
		for round := range 3 {
			for no := range n {
				get(t, c, no, was[no])
				if want := max(no+1, n*min(round, 1)); d.Reads() != want {
					t.Fatalf("%d reads, want %d", d.Reads(), want)
				}
			}
		}
		if d.Writes() != 0 || c.Last() != 0 || len(c.Dirty()) != 0 || !slices.Equal(d.Image(), was) {
			t.Fatalf("Get changed something")
		}
	}
}

// Promises 12.1 and 12.2: while the power is off, blocks that are not known tell so, and the others can be seen and changed.
func TestWithoutPower(t *testing.T) {
	d, was := device(t, 16, 3), noise(16, 3)
	c := cache.New(d)
	get(t, c, 1, was[1])
	put(t, c, 1, 2, of(5, 55))
	d.Fuse(0)
	if err := c.Flush(2); err != api.ErrDown || !d.Down() {
		t.Fatalf("Flush: %v", err)
	}
	for _, no := range []int{0, 15, -1, 16, math.MaxInt} {
		if b, err := c.Get(no); b != (api.Block{}) || err != api.ErrDown {
			t.Errorf("Get(%d): %v %v", no, b, err)
		}
		if id, err := c.Put(no, of(0, 1)); id != 0 || err != api.ErrDown {
			t.Errorf("Put(%d): %d %v", no, id, err)
		}
	}
	put(t, c, 2, 1, of(6, 66), 1)
	put(t, c, 3, 2, of(5, 77))
	get(t, c, 1, laid(was[1], of(6, 66)))
	get(t, c, 2, laid(was[2], of(5, 77)))
	for _, err := range []api.Errno{c.Flush(2), c.Upto(1), c.Upto(3), c.Sync()} {
		if err != api.ErrDown {
			t.Errorf("%v, want ErrDown", err)
		}
	}
	flush(t, c, 1, 0, 3, -1, 99)
	if !slices.Equal(d.Image(), was) || d.Writes() != 0 || d.Reads() != 2 || !slices.Equal(ids(c.Left()), []int{1, 2, 3}) {
		t.Fatalf("Left: %v, %d reads, %d writes", c.Left(), d.Reads(), d.Writes())
	}
	d.Up()
	if err := c.Sync(); err != api.OK || d.Writes() != 2 {
		t.Fatalf("Sync: %v, %d writes", err, d.Writes())
	}
	was[1], was[2] = laid(was[1], of(6, 66)), laid(was[2], of(5, 77))
	if !slices.Equal(d.Image(), was) || len(c.Left()) != 0 {
		t.Errorf("Left: %v", c.Left())
	}
	get(t, c, 0, was[0])
	if d.Reads() != 3 {
		t.Errorf("%d reads", d.Reads())
	}
}

// Promise 12.2: patches that may not be, needs that are not from 1 to Last, and blocks that there are not: in this order, and nothing is done.
func TestPutRefused(t *testing.T) {
	good := of(0, 1)
	for _, made := range []int{0, 1, 3} {
		p := newPair(t, 16, 4)
		for id := range made {
			p.put(t, id, of(id, 1))
		}
		for _, no := range []int{0, 9, 15, -1, 16, math.MinInt, math.MaxInt} {
			outside := no < 0 || no > 15
			for _, bad := range []api.Patch{{}, of(0), of(-1, 1), of(256, 1), of(255, 1, 2), of(0, many(257, 1)...), of(math.MaxInt, 1), of(math.MinInt, 1), {At: 7, Data: []byte{}}} {
				refused(t, p, api.ErrArg, no, bad)
				refused(t, p, api.ErrArg, no, bad, 0)
			}
			for _, need := range []int{0, -1, made + 1, math.MinInt, math.MaxInt} {
				refused(t, p, api.ErrArg, no, good, need)
				for id := 1; id <= made; id++ {
					refused(t, p, api.ErrArg, no, good, id, need)
					refused(t, p, api.ErrArg, no, good, need, id)
				}
			}
			if outside {
				refused(t, p, api.ErrRange, no, good)
			}
		}
		p.fuse(0)
		p.d.Write(0, api.Block{})
		p.twin.Write(0, api.Block{})
		for _, no := range []int{9, 16} {
			refused(t, p, api.ErrArg, no, of(0))
			refused(t, p, api.ErrArg, no, good, made+1)
			refused(t, p, api.ErrDown, no, good)
		}
		if want := min(made, 3); p.d.Reads() != want {
			t.Errorf("%d reads, want %d", p.d.Reads(), want)
		}
	}
}

func refused(t *testing.T, p *pair, want api.Errno, no int, is api.Patch, needs ...int) {
	t.Helper()
	if id, err := p.c.Put(no, is, needs...); id != 0 || err != want {
		t.Fatalf("Put(%d, %v, %v): %d %v, want %v", no, is, needs, id, err, want)
	}
	p.same(t, "refused")
}

// Promise 12.2: of needs those that are not done, rising, each once; a need that is done later on stays in the list.
func TestNeeds(t *testing.T) {
	c := cache.New(disk.New(16))
	for id := 1; id <= 6; id++ {
		put(t, c, id, id, of(id, 1))
	}
	flush(t, c, 2, 5)
	for i, needs := range [][]int{nil, {}, {1}, {2}, {2, 5}, {6, 4, 3, 1}, {1, 1, 1}, {6, 2, 6, 5, 1, 2, 1}, {5, 4, 3, 2, 1, 1, 2, 3, 4, 5}} {
		put(t, c, 7+i, 7, of(i, 1), needs...)
	}
	want := [][]int{nil, nil, {1}, nil, nil, {1, 3, 4, 6}, {1}, {1, 6}, {1, 3, 4}}
	for _, others := range []int{4, 3} {
		l := c.Left()
		if len(l) != others+len(want) {
			t.Fatalf("Left: %v", l)
		}
		for i, change := range l[others:] {
			if !slices.Equal(change.Needs, want[i]) || change.ID != 7+i || change.Block != 7 || !patch.Same(change.Patch, of(i, 1)) {
				t.Errorf("%v, want the needs %v", change, want[i])
			}
		}
		flush(t, c, 1)
	}
}

// Promise 12.3: by hand: puts, then blocks that are flushed; which are done, and how often was written.
func TestFlushByHand(t *testing.T) {
	a, both := of(0, 1), of(0, 2, 2)
	chain := []api.Change{change(1, 5, a), change(2, 6, a, 1), change(3, 5, both, 2), change(4, 5, of(9, 4))}
	for i, c := range []struct {
		l      []api.Change
		blocks []int
		left   []int
		writes int
	}{
		{nil, []int{0, 5, 15, 16, -1, math.MinInt, math.MaxInt}, nil, 0},
		{chain[:1], []int{6, 4, -5, 5}, nil, 1}, {chain[:1], []int{5, 5, 5}, nil, 1},
		{chain, []int{6}, []int{1, 2, 3, 4}, 0}, {chain, []int{5}, []int{2, 3}, 1}, {chain, []int{5, 5}, []int{2, 3}, 1}, {chain, []int{5, 6}, []int{3}, 2}, {chain, []int{6, 5, 6, 6, 5, 5}, nil, 3},
		{[]api.Change{change(1, 5, a), change(2, 5, both, 1), change(3, 5, a, 1, 2)}, []int{5}, nil, 1},
		{[]api.Change{change(1, 5, a), change(2, 6, a, 1), change(3, 5, of(9, 1), 2), change(4, 5, of(8, 1, 1)), change(5, 5, of(7, 1, 1)), change(6, 5, of(6, 1))}, []int{5}, []int{2, 3, 4, 5}, 1},
		{[]api.Change{change(1, 0, a), change(2, 15, a), change(3, 7, a, 1, 2), change(4, 7, both)}, []int{7, 0, 7}, []int{2, 3, 4}, 1},
		{[]api.Change{change(1, 0, a), change(2, 15, a), change(3, 7, a, 1, 2), change(4, 7, both)}, []int{15, 7, 0, 7}, nil, 3},
		{[]api.Change{change(1, 3, of(0, many(256, 1)...)), change(2, 4, a, 1), change(3, 3, of(255, 9), 2), change(4, 3, of(0, many(255, 2)...)), change(5, 3, of(254, 3, 3))}, []int{3}, []int{2, 3, 5}, 1},
	} {
		p := newPair(t, 16, 5)
		for _, one := range c.l {
			p.put(t, one.Block, one.Patch, one.Needs...)
		}
		for _, no := range c.blocks {
			p.flush(t, no)
			p.same(t, "flushed")
		}
		if got := ids(p.c.Left()); !slices.Equal(got, c.left) || p.d.Writes() != c.writes {
			t.Errorf("%d: left %v behind %d writes, want %v, %d", i, got, p.d.Writes(), c.left, c.writes)
		}
	}
}

// Promise 12.3: where nothing is ready nothing is written, so no fuse burns, and no power has to be there; what fails changed nothing, and is done when it is asked for again.
func TestFlushFails(t *testing.T) {
	p := newPair(t, 16, 6)
	p.put(t, 3, of(0, 1, 2))
	p.put(t, 4, of(1, 3), 1)
	p.put(t, 3, of(1, 4), 2)
	p.put(t, 3, of(255, 5))
	p.fuse(0)
	for _, no := range []int{4, 2, 16, -1} {
		p.flush(t, no)
		p.same(t, "nothing is ready")
	}
	if p.d.Down() {
		t.Fatal("the power is off")
	}
	for range 3 {
		if err := p.c.Flush(3); err != api.ErrDown || p.wantedFlush(3) != api.ErrDown {
			t.Fatalf("Flush: %v", err)
		}
		p.same(t, "failed")
		p.flush(t, 4)
	}
	p.up()
	for _, no := range []int{3, 3, 4, 4, 3} {
		p.flush(t, no)
		p.same(t, "done again")
	}
	if got := p.d.Writes(); got != 3 || len(p.c.Left()) != 0 {
		t.Errorf("%d writes, left: %v", got, p.c.Left())
	}
	was := noise(16, 6)
	if got := p.d.Image(); got[3] != laid(was[3], of(0, 1, 4), of(255, 5)) || got[4] != laid(was[4], of(1, 3)) {
		t.Errorf("%v", got)
	}
}

// rows are changes, block by block: 1 and 5 in block 2, 2 and 4 in block 9, 3 in block 0, 6 in block 15; 4 needs 3, 5 needs 4.
func rows(t *testing.T, p *pair) {
	t.Helper()
	p.put(t, 2, of(0, 1))
	p.put(t, 9, of(0, 2))
	p.put(t, 0, of(0, 3))
	p.put(t, 9, of(9, 4), 3)
	p.put(t, 2, of(0, 5), 4)
	p.put(t, 15, of(0, 6))
}

// Promise 12.3: by hand: up to which number, with how many writes ahead of a failure (-1: none fails), what is left, and how often was written.
func TestUptoByHand(t *testing.T) {
	for i, c := range []struct {
		upto, fuse int
		left       []int
		writes     int
	}{
		{math.MinInt, 0, []int{1, 2, 3, 4, 5, 6}, 0}, {-1, 0, []int{1, 2, 3, 4, 5, 6}, 0}, {0, 0, []int{1, 2, 3, 4, 5, 6}, 0},
		{1, -1, []int{2, 3, 4, 5, 6}, 1}, {1, 1, []int{2, 3, 4, 5, 6}, 1}, {1, 0, []int{1, 2, 3, 4, 5, 6}, 0}, {2, -1, []int{3, 4, 5, 6}, 2}, {3, -1, []int{4, 5, 6}, 3}, {4, -1, []int{5, 6}, 4}, {5, -1, []int{6}, 5}, {6, -1, nil, 6}, {7, -1, nil, 6}, {math.MaxInt, -1, nil, 6},
		{6, 0, []int{1, 2, 3, 4, 5, 6}, 0}, {6, 1, []int{2, 3, 4, 5, 6}, 1}, {6, 2, []int{3, 4, 5, 6}, 2}, {6, 3, []int{4, 5, 6}, 3}, {math.MaxInt, 4, []int{5, 6}, 4}, {6, 5, []int{6}, 5}, {6, 6, nil, 6}, {5, 5, []int{6}, 5},
	} {
		p := newPair(t, 16, 7)
		rows(t, p)
		p.fuse(c.fuse)
		p.upto(t, c.upto)
		p.same(t, "Upto")
		if got := ids(p.c.Left()); !slices.Equal(got, c.left) || p.d.Writes() != c.writes {
			t.Errorf("%d: left %v behind %d writes, want %v, %d", i, got, p.d.Writes(), c.left, c.writes)
		}
		p.up()
		p.upto(t, c.upto)
		p.same(t, "Upto again")
		p.sync(t)
		p.same(t, "Sync")
		if got := p.d.Writes(); got != 6 {
			t.Errorf("%d: %d writes", i, got)
		}
		p.fuse(0)
		p.sync(t)
		p.upto(t, 6)
		p.same(t, "nothing is left")
	}
}

// Promise 12.3: the first change's block is written, so one that is not above the number may be done by the way, and so may one that is.
func TestUptoByTheWay(t *testing.T) {
	p := newPair(t, 16, 8)
	for _, no := range []int{5, 6, 5, 6, 5} {
		p.put(t, no, of(0, 1))
	}
	p.put(t, 6, of(1, 2), 5)
	p.upto(t, 1)
	p.same(t, "Upto(1)")
	if got := ids(p.c.Left()); !slices.Equal(got, []int{2, 4, 6}) {
		t.Errorf("left: %v", got)
	}
	p.upto(t, 1)
	p.upto(t, 0)
	p.same(t, "again")
	p.flush(t, 6)
	p.fuse(0)
	p.upto(t, 6)
	p.sync(t)
	p.same(t, "nothing is left")
	if got := p.d.Writes(); got != 2 || p.d.Down() {
		t.Errorf("%d writes", got)
	}
}

// Promise 12.3: Sync is that of what was made till then; blocks stay known behind it, and are changed again; what was needed and is done is waited for no more.
func TestSyncAgain(t *testing.T) {
	p := newPair(t, 16, 9)
	p.sync(t)
	p.same(t, "Sync without a change")
	for round := range 4 {
		rows(t, p)
		p.put(t, 9, of(9, byte(round)), 1, p.last)
		p.sync(t)
		p.same(t, "Sync")
	}
	if p.d.Reads() != 4 || p.d.Writes() != 7+3*5 {
		t.Errorf("%d reads, %d writes", p.d.Reads(), p.d.Writes())
	}
}

// Promise 12.4: a nil cache.
func TestNil(t *testing.T) {
	var c *cache.Cache
	for _, no := range []int{math.MinInt, -1, 0, 1, 16, math.MaxInt} {
		if b, err := c.Get(no); b != (api.Block{}) || err != api.ErrArg {
			t.Errorf("Get(%d): %v %v", no, b, err)
		}
		for _, p := range []api.Patch{{}, of(0, 1), of(256, 1)} {
			for _, needs := range [][]int{nil, {0}, {1}, {no}} {
				if id, err := c.Put(no, p, needs...); id != 0 || err != api.ErrArg {
					t.Errorf("Put(%d): %d %v", no, id, err)
				}
			}
		}
		if err := c.Flush(no); err != api.ErrArg {
			t.Errorf("Flush(%d): %v", no, err)
		}
		if err := c.Upto(no); err != api.ErrArg {
			t.Errorf("Upto(%d): %v", no, err)
		}
		if c.Done(no) {
			t.Errorf("Done(%d)", no)
		}
	}
	if err := c.Sync(); err != api.ErrArg {
		t.Errorf("Sync: %v", err)
	}
	if len(c.Left()) != 0 || len(c.Dirty()) != 0 || c.Last() != 0 {
		t.Errorf("Left: %v, Dirty: %v, Last: %d", c.Left(), c.Dirty(), c.Last())
	}
}

// P1 and R9: of the zero one, which has no device, every call ends: that device's own error, and no changes.
func TestZero(t *testing.T) {
	c := &cache.Cache{}
	for _, no := range []int{math.MinInt, -1, 0, 1, 16, math.MaxInt} {
		if b, err := c.Get(no); b != (api.Block{}) || err != api.ErrArg {
			t.Errorf("Get(%d): %v %v", no, b, err)
		}
		if id, err := c.Put(no, of(0, 1)); id != 0 || err != api.ErrArg {
			t.Errorf("Put(%d): %d %v", no, id, err)
		}
		if c.Flush(no) != api.OK || c.Upto(no) != api.OK || c.Done(no) {
			t.Errorf("Flush, Upto or Done of %d", no)
		}
	}
	if c.Sync() != api.OK || len(c.Left()) != 0 || len(c.Dirty()) != 0 || c.Last() != 0 {
		t.Errorf("Left: %v", c.Left())
	}
}

// anyPatch tells a patch, mostly one that may be, that meets others often or seldom.
func anyPatch(r *rand.Rand, room int) api.Patch {
	at := r.Intn(room)
	data := make([]byte, 1+r.Intn(min(256-at, 1+room/4)))
	for i := range data {
		data[i] = byte(r.Intn(4))
	}
	switch r.Intn(40) {
	case 0:
		return of(at)
	case 1:
		return of(256-len(data)+1, data...)
	}
	return of(at, data...)
}

// anyNeeds tells few numbers, mostly of changes that were made.
func anyNeeds(r *rand.Rand, last int) []int {
	var needs []int
	for range r.Intn(4) {
		if last > 0 {
			needs = append(needs, 1+r.Intn(last))
		}
	}
	if r.Intn(30) == 0 {
		needs = append(needs, []int{0, last + 1, -1}[r.Intn(3)])
	}
	return needs
}

// Promises 12.1 to 12.3: any calls in any order, with failures of the power: each answers what it ought to, and leaves what it ought to.
func TestAnyCalls(t *testing.T) {
	for seed := range 400 {
		r := rand.New(rand.NewSource(int64(seed)))
		n := 16 + r.Intn(3)
		p := newPair(t, n, seed)
		blocks, room, often := 1+r.Intn(6), 1+r.Intn(256), 1+r.Intn(12)
		number := func() int {
			if r.Intn(20) == 0 {
				return []int{-1, n, math.MinInt, math.MaxInt}[r.Intn(4)]
			}
			return (n - 3 + r.Intn(blocks)) % n
		}
		for range 10 + r.Intn(120) {
			switch k := r.Intn(often + 8); k {
			case 0, 1:
				p.get(t, number())
			case 2, 3:
				p.flush(t, number())
			case 4:
				p.upto(t, r.Intn(p.last+3)-1)
			case 5:
				if r.Intn(6) == 0 {
					p.sync(t)
				}
			case 6:
				if r.Intn(3) == 0 {
					p.fuse(r.Intn(5) - 1)
				}
			case 7:
				p.up()
			default:
				p.put(t, number(), anyPatch(r, room), anyNeeds(r, p.last)...)
			}
			p.same(t, "called")
		}
		for no := range p.base {
			p.get(t, no)
		}
		p.up()
		p.sync(t)
		p.same(t, "at last")
	}
}

// Promises 12.1 to 12.3 and 12.5: all rows of few calls: puts into two blocks, that have either or both of two bytes, and need any of those ahead; and flushes of both.
func TestSmallRows(t *testing.T) {
	var row []func(p *pair)
	var next func(made, room int)
	next = func(made, room int) {
		p := newPair(t, 16, 10)
		for _, call := range row {
			call(p)
		}
		p.same(t, "a small row")
		for no := range p.base {
			p.get(t, no)
		}
		if room == 0 {
			return
		}
		with := func(made int, call func(p *pair)) {
			row = append(row, call)
			next(made, room-1)
			row = row[:len(row)-1]
		}
		b := byte(made + 1)
		for block := range 2 {
			with(made, func(p *pair) { p.flush(t, block) })
			for _, is := range []api.Patch{of(0, b), of(1, b), of(0, b, b)} {
				for bits := range 1 << made {
					var needs []int
					for k := range made {
						if bits>>k&1 == 1 {
							needs = append(needs, k+1)
						}
					}
					with(made+1, func(p *pair) { p.put(t, block, is, needs...) })
				}
			}
		}
	}
	next(0, 4)
}

// waitsFor tells for which of the changes, ahead of it, the change at this place of a list of all that were made waits.
func waitsFor(all []api.Change, at int) []int {
	var ahead []int
	for i, other := range all[:at] {
		p, q := other.Patch, all[at].Patch
		meet := other.Block == all[at].Block && p.At < q.At+len(q.Data) && q.At < p.At+len(p.Data)
		if meet || slices.Contains(all[at].Needs, other.ID) {
			ahead = append(ahead, i)
		}
	}
	return ahead
}

// whatFollows holds the cache, of which all these changes were made, against promises 12.5 and 12.6.
func whatFollows(t *testing.T, c *cache.Cache, d *disk.Disk, was []api.Block, all []api.Change) {
	t.Helper()
	views, image := slices.Clone(was), slices.Clone(was)
	left := c.Left()
	for at, one := range all {
		views[one.Block] = laid(views[one.Block], one.Patch)
		if !c.Done(one.ID) {
			if len(left) == 0 || !alike(left[0], one) {
				t.Fatalf("%v is neither done nor left", one)
			}
			left = left[1:]
			continue
		}
		image[one.Block] = laid(image[one.Block], one.Patch)
		for _, ahead := range waitsFor(all, at) {
			if !c.Done(all[ahead].ID) {
				t.Fatalf("%v is done, %v, for which it waited, is not", one, all[ahead])
			}
		}
	}
	if len(left) != 0 {
		t.Fatalf("%v are left", left)
	}
	if !slices.Equal(d.Image(), image) {
		t.Fatalf("the device has other blocks than those with the changes %v that are done", all)
	}
	for no, view := range views {
		get(t, c, no, view)
	}
}

// Promises 12.5 to 12.7: the same changes, written at any times and in any order, or not at all: views are the same, the device has what is done, and behind Sync all that is seen.
func TestWhatFollows(t *testing.T) {
	for seed := range 150 {
		r := rand.New(rand.NewSource(int64(seed)))
		was := noise(16, seed)
		d, still := device(t, 16, seed), device(t, 16, seed)
		c, lazy := cache.New(d), cache.New(still)
		blocks, room := 1+r.Intn(5), 1+r.Intn(256)
		var all []api.Change
		for range 40 {
			switch r.Intn(6) {
			case 0:
				flush(t, c, r.Intn(blocks))
			case 1:
				d.Fuse(r.Intn(3))
				c.Upto(r.Intn(len(all) + 1))
				d.Up()
			default:
				no, p, needs := r.Intn(blocks), of(r.Intn(room), many(1+r.Intn(3), byte(r.Intn(256)))...), anyNeeds(r, len(all))
				id, err := c.Put(no, p, needs...)
				if same, bad := lazy.Put(no, p, needs...); same != id || bad != err {
					t.Fatalf("Put: %d %v, and %d %v", id, err, same, bad)
				}
				if err == api.OK {
					left := slices.DeleteFunc(slices.Clone(needs), c.Done)
					slices.Sort(left)
					all = append(all, change(id, no, p, slices.Compact(left)...))
				}
			}
			whatFollows(t, c, d, was, all)
		}
		if !slices.Equal(still.Image(), was) || still.Writes() != 0 || len(lazy.Left()) != len(all) {
			t.Fatalf("what was not flushed was written")
		}
		for no := range 16 {
			one, _ := c.Get(no)
			get(t, lazy, no, one)
		}
		for _, c := range []*cache.Cache{c, lazy} {
			if err := c.Sync(); err != api.OK || len(c.Left()) != 0 || len(c.Dirty()) != 0 {
				t.Fatalf("Sync: %v, left: %v", err, c.Left())
			}
		}
		if !slices.Equal(d.Image(), still.Image()) {
			t.Fatalf("the devices are not the same behind Sync")
		}
		for no, b := range d.Image() {
			get(t, c, no, b)
			get(t, lazy, no, b)
		}
	}
}

// Promise 12.6: blocks are written in any order till nothing is left; the power fails ahead of any of the writes.
func TestPowerFailsAnywhere(t *testing.T) {
	for seed := range 40 {
		for fuse := range 30 {
			r := rand.New(rand.NewSource(int64(seed)))
			d := device(t, 16, seed)
			c := cache.New(d)
			var all []api.Change
			for id := 1; id <= 25; id++ {
				no, p, needs := r.Intn(3), of(r.Intn(9), many(1+r.Intn(3), byte(id))...), []int(nil)
				if id > 1 {
					needs = []int{1 + r.Intn(id-1)}
				}
				put(t, c, id, no, p, needs...)
				all = append(all, change(id, no, p, needs...))
			}
			d.Fuse(fuse)
			err := api.OK
			for len(c.Left()) > 0 && err == api.OK {
				dirty := c.Dirty()
				err = c.Flush(dirty[r.Intn(len(dirty))])
			}
			if d.Writes() > fuse || d.Down() != (err == api.ErrDown) || d.Down() && d.Writes() != fuse {
				t.Fatalf("%d writes of %d, %v", d.Writes(), fuse, err)
			}
			d.Up()
			whatFollows(t, c, d, noise(16, seed), all)
		}
	}
}

// R4: what was handed in is not kept, and what is told is new memory.
func TestNothingIsShared(t *testing.T) {
	d, was := device(t, 16, 11), noise(16, 11)
	c := cache.New(d)
	put(t, c, 1, 5, of(0, 1))
	put(t, c, 2, 6, of(0, 1))
	data, needs := []byte{7, 8, 9, 10}, []int{2, 1, 2, 1}
	put(t, c, 3, 7, of(100, data[:3]...), needs[:3]...)
	put(t, c, 4, 7, api.Patch{At: 200, Data: data[:2]}, needs...)
	if !slices.Equal(data, []byte{7, 8, 9, 10}) || !slices.Equal(needs, []int{2, 1, 2, 1}) {
		t.Fatalf("Put changed %v, %v", data, needs)
	}
	clear(data)
	clear(needs)
	want := []api.Change{change(1, 5, of(0, 1)), change(2, 6, of(0, 1)), change(3, 7, of(100, 7, 8, 9), 1, 2), change(4, 7, of(200, 7, 8), 1, 2)}
	for range 3 {
		one, two := c.Left(), c.Left()
		dirty := c.Dirty()
		for i := range one {
			clear(one[i].Patch.Data[:cap(one[i].Patch.Data)])
			clear(one[i].Needs[:cap(one[i].Needs)])
			if !allAlike(one[i+1:], want[i+1:]) {
				t.Fatalf("the change at %d shares memory with one behind it", i)
			}
		}
		clear(one[:cap(one)])
		clear(dirty[:cap(dirty)])
		if !allAlike(two, want) || !allAlike(c.Left(), want) || !slices.Equal(c.Dirty(), []int{5, 6, 7}) {
			t.Fatalf("Left: %v, then %v; Dirty: %v", two, c.Left(), c.Dirty())
		}
	}
	flush(t, c, 5, 6, 7)
	if got := d.Image()[7]; got != laid(was[7], of(100, 7, 8, 9), of(200, 7, 8)) || len(c.Left()) != 0 {
		t.Errorf("the device has %v", got)
	}
}

// Promises 12.1 and 12.3: what a cache told of the list stays as it was when changes are done, and made.
func TestToldStays(t *testing.T) {
	c := cache.New(disk.New(16))
	put(t, c, 1, 5, of(0, 1))
	put(t, c, 2, 6, of(0, 1), 1)
	put(t, c, 3, 5, of(0, 2), 2)
	left, dirty := c.Left(), c.Dirty()
	want := copied(left)
	flush(t, c, 5, 6)
	put(t, c, 4, 9, of(0, 1), 3)
	if !allAlike(left, want) || !slices.Equal(dirty, []int{5, 6}) || !allAlike(c.Left(), []api.Change{change(3, 5, of(0, 2), 2), change(4, 9, of(0, 1), 3)}) {
		t.Errorf("told: %v %v, Left: %v", left, dirty, c.Left())
	}
}

// Caches know nothing of one another: each has its numbers, and its blocks as they were when it read them.
func TestTwoCaches(t *testing.T) {
	d, was := device(t, 16, 12), noise(16, 12)
	one, two := cache.New(d), cache.New(d)
	get(t, two, 3, was[3])
	put(t, one, 1, 3, of(0, 1))
	put(t, one, 2, 4, of(0, 2), 1)
	put(t, two, 1, 5, of(0, 3))
	get(t, two, 3, was[3])
	if err := one.Sync(); err != api.OK || two.Done(1) || !slices.Equal(two.Dirty(), []int{5}) {
		t.Fatalf("Sync: %v, Dirty: %v", err, two.Dirty())
	}
	get(t, two, 3, was[3])
	get(t, two, 4, laid(was[4], of(0, 2)))
	get(t, one, 5, was[5])
	if two.Last() != 1 || one.Last() != 2 {
		t.Errorf("Last: %d, %d", one.Last(), two.Last())
	}
}

// P1: long lists are written without looking at each pair, and without going through all that is left at each write: each change needs the one ahead in another block; all of them meet; each has room of its own; all but the first one are held, and asked for time and again.
func TestLongLists(t *testing.T) {
	const n = 1 << 16
	for k, row := range []struct {
		block  func(id int) int
		data   []byte
		needs  bool
		held   int
		writes int
	}{
		{func(id int) int { return id % 2 }, many(1, 7), true, 0, n},
		{func(id int) int { return 3 }, many(256, 7), false, 2, 1},
		{func(id int) int { return id % 512 }, many(1, 7), false, -1, 512},
		{func(id int) int { return min(id, 2) }, many(1, 7), true, 2, 2},
	} {
		d := disk.New(512)
		c := cache.New(d)
		for id := 1; id <= n; id++ {
			var needs []int
			if row.needs && id > 1 {
				needs = []int{id - 1, 1, 1}
			}
			put(t, c, id, row.block(id), of(id%(257-len(row.data)), row.data...), needs...)
			flush(t, c, row.held)
		}
		if got := c.Left(); len(got) != n || d.Writes() != 0 {
			t.Errorf("%d: %d are left", k, len(got))
		}
		if err := c.Upto(n); err != api.OK || len(c.Left()) != 0 || !c.Done(n) || d.Writes() != row.writes {
			t.Errorf("%d: Upto: %v, %d writes", k, err, d.Writes())
		}
	}
}
