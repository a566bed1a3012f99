package sched_test

import (
	"math"
	"math/rand"
	"slices"
	"testing"

	"escheat/api"
	"escheat/cache"
	"escheat/disk"
	"escheat/graph"
	"escheat/pick"
	"escheat/ready"
	"escheat/sched"
)

func of(at int, data ...byte) api.Patch {
	return api.Patch{At: at, Data: data}
}

// fresh tells a cache of a device of noughts, and the device.
func fresh(blocks int) (*cache.Cache, *disk.Disk) {
	d := disk.New(blocks)
	return cache.New(d), d
}

// put makes a change that has to be made with this number.
func put(t *testing.T, c *cache.Cache, id, no int, p api.Patch, needs ...int) {
	t.Helper()
	if got, err := c.Put(no, p, needs...); got != id || err != api.OK {
		t.Fatalf("Put(%d, %v, %v): %d %v, want %d", no, p, needs, got, err, id)
	}
}

// row makes a change of each of the blocks, in order, each of which needs the one ahead.
func row(t *testing.T, c *cache.Cache, blocks ...int) {
	t.Helper()
	for _, no := range blocks {
		var needs []int
		if last := c.Last(); last > 0 {
			needs = []int{last}
		}
		put(t, c, c.Last()+1, no, of(c.Last()%256, 7), needs...)
	}
}

// free makes a change of each of the blocks, none of which needs another one.
func free(t *testing.T, c *cache.Cache, blocks ...int) {
	t.Helper()
	for _, no := range blocks {
		put(t, c, c.Last()+1, no, of(0, byte(no)))
	}
}

// written tells the device's blocks that are not all noughts, rising.
func written(d *disk.Disk) []int {
	var rising []int
	for no, b := range d.Image() {
		if b != (api.Block{}) {
			rising = append(rising, no)
		}
	}
	return rising
}

func ids(l []api.Change) []int {
	var told []int
	for _, c := range l {
		told = append(told, c.ID)
	}
	return told
}

// is fails, unless the device has just these blocks written, and the cache those dirty.
func is(t *testing.T, c *cache.Cache, d *disk.Disk, blocks, dirty []int) {
	t.Helper()
	if got := written(d); !slices.Equal(got, blocks) {
		t.Fatalf("written: %v, want %v", got, blocks)
	}
	if got := c.Dirty(); !slices.Equal(got, dirty) {
		t.Fatalf("Dirty: %v, want %v", got, dirty)
	}
}

func step(t *testing.T, c *cache.Cache, w uint64, block int, want api.Errno) {
	t.Helper()
	if got, err := sched.Step(c, w); got != block || err != want {
		t.Fatalf("Step(%d): %d %v, want %d %v", w, got, err, block, want)
	}
}

func run(t *testing.T, c *cache.Cache, l []uint64, n int, want api.Errno) {
	t.Helper()
	if got, err := sched.Run(c, l); got != n || err != want {
		t.Fatalf("Run(%v): %d %v, want %d %v", l, got, err, n, want)
	}
}

func round(t *testing.T, c *cache.Cache, want api.Errno) {
	t.Helper()
	if err := sched.Round(c); err != want {
		t.Fatalf("Round: %v, want %v", err, want)
	}
}

func rounds(t *testing.T, c *cache.Cache, most, n int, want api.Errno) {
	t.Helper()
	if got, err := sched.Rounds(c, most); got != n || err != want {
		t.Fatalf("Rounds(%d): %d %v, want %d %v", most, got, err, n, want)
	}
}

func deep(t *testing.T, c *cache.Cache, want int) {
	t.Helper()
	if got := sched.Deep(c); got != want {
		t.Fatalf("Deep: %d, want %d", got, want)
	}
}

// The bits of some weights, as IEEE 754 has them.
const (
	noNumber      uint64 = 9221120237041090560
	nought        uint64 = 0
	withSign      uint64 = 1 << 63
	quarter       uint64 = 4598175219545276416
	half          uint64 = 4602678819172646912
	threeQuarters uint64 = 4604930618986332160
	one           uint64 = 4607182418800017408
	infinity      uint64 = 9218868437227405312
)

// Promise 13.1: of 2, 5, 7 and 11 the weight picks one, by its bits, and that one is written alone.
func TestStepPicks(t *testing.T) {
	for _, k := range []struct {
		w    uint64
		want int
	}{
		{nought, 2}, {withSign, 2}, {noNumber, 2}, {noNumber | 1<<63, 2}, {infinity + 1, 2}, {math.MaxUint64, 2},
		{infinity | 1<<63, 2}, {one | 1<<63, 2}, {half | 1<<63, 2},
		{1, 2}, {2, 2}, {quarter - 1, 2}, {quarter, 5}, {half - 1, 5}, {half, 7}, {threeQuarters - 1, 7}, {threeQuarters, 11},
		{one - 1, 11}, {one, 11}, {one + 1, 11}, {math.Float64bits(3), 11}, {infinity - 1, 11}, {infinity, 11},
		{math.Float64bits(0.1), 2}, {math.Float64bits(0.3), 5}, {math.Float64bits(0.6), 7}, {math.Float64bits(0.9), 11},
	} {
		c, d := fresh(16)
		all := []int{2, 5, 7, 11}
		free(t, c, 7, 2, 11, 5)
		step(t, c, k.w, k.want, api.OK)
		is(t, c, d, []int{k.want}, slices.DeleteFunc(all, func(no int) bool { return no == k.want }))
		if d.Writes() != 1 {
			t.Errorf("Step(%d): %d writes", k.w, d.Writes())
		}
	}
}

// Promise 13.1: a block all of whose changes wait for those of other ones is picked too, but nothing is written then; of what is ready in part that part is.
func TestStepOfHeld(t *testing.T) {
	c, d := fresh(16)
	row(t, c, 3, 4, 3)
	for range 2 {
		step(t, c, half, 4, api.OK)
		is(t, c, d, nil, []int{3, 4})
	}
	step(t, c, nought, 3, api.OK)
	is(t, c, d, []int{3}, []int{3, 4})
	if b := d.Image()[3]; b[0] != 7 || b[2] != 0 || !slices.Equal(ids(c.Left()), []int{2, 3}) {
		t.Fatalf("the device's block: %v, left: %v", b, ids(c.Left()))
	}
	step(t, c, nought, 3, api.OK)
	if d.Writes() != 1 {
		t.Fatalf("%d writes", d.Writes())
	}
	step(t, c, one, 4, api.OK)
	step(t, c, one, 3, api.OK)
	is(t, c, d, []int{3, 4}, nil)
}

// Promise 13.1: where nothing is dirty -1 and OK is told, of whatever weight, whether the power is on or off; of no cache -1 and ErrArg.
func TestStepOfNothing(t *testing.T) {
	ended, d := fresh(16)
	free(t, ended, 3, 9)
	if err := ended.Sync(); err != api.OK {
		t.Fatal(err)
	}
	seen, _ := fresh(16)
	if _, err := seen.Get(3); err != api.OK {
		t.Fatal(err)
	}
	for _, w := range []uint64{nought, half, one, infinity, noNumber, math.MaxUint64} {
		for _, c := range []*cache.Cache{ended, seen, cache.New(disk.New(16)), {}} {
			step(t, c, w, -1, api.OK)
		}
		step(t, nil, w, -1, api.ErrArg)
		d.Fuse(0)
	}
	d.Write(0, api.Block{})
	if !d.Down() {
		t.Fatal("the power is on")
	}
	step(t, ended, half, -1, api.OK)
	if d.Writes() != 2 {
		t.Fatalf("%d writes", d.Writes())
	}
}

// Promise 13.1: with Flush's error the block is told too, and nothing is done.
func TestStepFails(t *testing.T) {
	c, d := fresh(16)
	free(t, c, 3, 9)
	put(t, c, 3, 12, of(0, 1), 1)
	d.Fuse(0)
	for range 2 {
		step(t, c, half, 9, api.ErrDown)
		step(t, c, nought, 3, api.ErrDown)
		// Nothing of it is ready, so nothing is asked of the device.
		step(t, c, one, 12, api.OK)
		is(t, c, d, nil, []int{3, 9, 12})
	}
	d.Up()
	step(t, c, half, 9, api.OK)
	is(t, c, d, []int{9}, []int{3, 12})
}

// Promise 13.1: Run does a step of each weight, in order; those that write nothing count too.
func TestRun(t *testing.T) {
	for _, k := range []struct {
		l               []uint64
		blocks, dirty   []int
		fuse, n, writes int
		want            api.Errno
	}{
		{nil, nil, []int{2, 5, 7, 11}, -1, 0, 0, api.OK},
		{[]uint64{}, nil, []int{2, 5, 7, 11}, 0, 0, 0, api.OK},
		{[]uint64{nought}, []int{2}, []int{5, 7, 11}, -1, 1, 1, api.OK},
		{[]uint64{half, half}, []int{5, 7}, []int{2, 11}, -1, 2, 2, api.OK},
		{[]uint64{one, one, one}, nil, []int{2, 5, 7, 11}, -1, 3, 0, api.OK},
		{[]uint64{half, one}, []int{7}, []int{2, 5, 11}, -1, 2, 1, api.OK},
		{[]uint64{nought, nought, nought, nought}, []int{2, 5, 7, 11}, nil, -1, 4, 4, api.OK},
		{[]uint64{nought, nought, nought, nought, nought, one, noNumber}, []int{2, 5, 7, 11}, nil, -1, 7, 4, api.OK},
		{[]uint64{nought, nought, nought, nought}, nil, []int{2, 5, 7, 11}, 0, 0, 0, api.ErrDown},
		{[]uint64{nought, nought, nought, nought}, []int{2, 5}, []int{7, 11}, 2, 2, 2, api.ErrDown},
		{[]uint64{one, one, nought, one, one}, []int{2}, []int{5, 7, 11}, 1, 5, 1, api.OK},
		{[]uint64{one, one, nought, quarter, one, one}, []int{2}, []int{5, 7, 11}, 1, 3, 1, api.ErrDown},
		{[]uint64{nought, nought, nought, nought, nought, nought}, []int{2, 5, 7, 11}, nil, 4, 6, 4, api.OK},
	} {
		c, d := fresh(16)
		free(t, c, 5, 7, 2)
		put(t, c, 4, 11, of(9, 1), 1, 2, 3)
		d.Fuse(k.fuse)
		l := slices.Clone(k.l)
		run(t, c, l, k.n, k.want)
		is(t, c, d, k.blocks, k.dirty)
		if d.Writes() != k.writes || !slices.Equal(l, k.l) {
			t.Errorf("Run(%v): %d writes, and the list is %v", k.l, d.Writes(), l)
		}
	}
}

// Promise 13.1: Run of nothing that is dirty, and of no cache.
func TestRunOfNothing(t *testing.T) {
	for _, l := range [][]uint64{nil, {}, {half}, {noNumber, one, nought}} {
		run(t, nil, l, 0, api.ErrArg)
		for _, c := range []*cache.Cache{cache.New(disk.New(16)), {}} {
			run(t, c, l, len(l), api.OK)
		}
	}
}

// Promise 13.2: a round writes rising, each block once, whatever it makes ready of those ahead.
func TestRound(t *testing.T) {
	c, d := fresh(16)
	row(t, c, 3, 4, 9, 15)
	round(t, c, api.OK)
	is(t, c, d, []int{3, 4, 9, 15}, nil)

	c, d = fresh(16)
	row(t, c, 9, 4, 3)
	round(t, c, api.OK)
	is(t, c, d, []int{9}, []int{3, 4})
	round(t, c, api.OK)
	is(t, c, d, []int{4, 9}, []int{3})
	round(t, c, api.OK)
	is(t, c, d, []int{3, 4, 9}, nil)

	c, d = fresh(16)
	row(t, c, 3, 4, 3, 4, 3)
	for _, left := range [][]int{{3, 4, 5}, {5}, nil, nil} {
		round(t, c, api.OK)
		if got := ids(c.Left()); !slices.Equal(got, left) {
			t.Fatalf("left: %v, want %v", got, left)
		}
	}
	if d.Writes() != 5 {
		t.Fatalf("%d writes", d.Writes())
	}
}

// Promise 13.2: the first error ends a round: what stands ahead is written, and what stands behind is not looked at.
func TestRoundFails(t *testing.T) {
	all := []int{2, 3, 8, 12, 15}
	for fuse := range 7 {
		c, d := fresh(16)
		free(t, c, 12, 3, 15, 2, 8)
		// That of 2 which needs the one of 12 is left behind the round, as 2 is written ahead.
		put(t, c, 6, 2, of(9, 1), 1)
		d.Fuse(fuse)
		n, want := fuse, api.ErrDown
		if fuse >= len(all) {
			n, want = len(all), api.OK
		}
		round(t, c, want)
		is(t, c, d, all[:n], slices.Concat([]int{2}, all[max(n, 1):]))
		if d.Writes() != n {
			t.Fatalf("%d writes, want %d", d.Writes(), n)
		}
	}
	for _, c := range []*cache.Cache{cache.New(disk.New(16)), {}} {
		round(t, c, api.OK)
	}
	round(t, nil, api.ErrArg)
}

// The chapter's example: 3 is written ahead of 4, so one round is enough for a row of two.
func TestExample(t *testing.T) {
	c, d := fresh(16)
	row(t, c, 3, 4)
	deep(t, c, 2)
	rounds(t, c, 9, 1, api.OK)
	deep(t, c, 0)
	is(t, c, d, []int{3, 4}, nil)
}

// Promise 13.2: as many rounds as are asked for, but none behind that by which nothing is dirty any more.
func TestRounds(t *testing.T) {
	for _, k := range []struct {
		blocks    []int
		most, n   int
		left, all int
	}{
		{[]int{3, 4}, 9, 1, 0, 2},
		{[]int{4, 3}, 9, 2, 0, 2},
		{[]int{4, 3}, 2, 2, 0, 2},
		{[]int{4, 3}, 1, 1, 1, 1},
		{[]int{4, 3}, 0, 0, 2, 0},
		{[]int{4, 3}, -1, 0, 2, 0},
		{[]int{4, 3}, math.MinInt, 0, 2, 0},
		{[]int{9, 8, 7, 6, 5}, math.MaxInt, 5, 0, 5},
		{[]int{9, 8, 7, 6, 5}, 4, 4, 1, 4},
		{[]int{3, 4, 3, 4, 3}, 100, 3, 0, 5},
		{[]int{3, 3, 3}, 100, 1, 0, 1},
		{nil, 5, 0, 0, 0},
		{nil, 0, 0, 0, 0},
	} {
		c, d := fresh(16)
		row(t, c, k.blocks...)
		rounds(t, c, k.most, k.n, api.OK)
		if len(c.Left()) != k.left || d.Writes() != k.all {
			t.Errorf("Rounds(%d) of %v: %d left, %d writes", k.most, k.blocks, len(c.Left()), d.Writes())
		}
		rounds(t, nil, k.most, 0, api.ErrArg)
		rounds(t, &cache.Cache{}, k.most, 0, api.OK)
	}
}

// Promise 13.2: the first error ends the rounds; the one that it broke off is not counted.
func TestRoundsFail(t *testing.T) {
	for fuse := range 8 {
		for _, most := range []int{0, 1, 2, 3, 9} {
			c, d := fresh(16)
			row(t, c, 9, 8, 7)
			// Two blocks are written in the first round, one in each of the other two.
			put(t, c, 4, 15, of(0, 1))
			d.Fuse(fuse)
			n, want := most, api.OK
			switch {
			case most > 0 && fuse < 2:
				n, want = 0, api.ErrDown
			case most > 1 && fuse < 3:
				n, want = 1, api.ErrDown
			case most > 2 && fuse < 4:
				n, want = 2, api.ErrDown
			}
			rounds(t, c, most, min(n, 3), want)
			if d.Down() != (want != api.OK) {
				t.Fatalf("fuse %d, %d rounds at most: is the power off? %v", fuse, most, d.Down())
			}
			if d.Down() {
				rounds(t, c, most, 0, api.ErrDown)
			}
		}
	}
	c, d := fresh(16)
	free(t, c, 3)
	rounds(t, c, 1, 1, api.OK)
	d.Fuse(0)
	d.Write(0, api.Block{})
	rounds(t, c, 9, 0, api.OK)
}

// Promise 13.2: the longest row of all that is left counts; those that meet in a block wait too, and what is done does not count.
func TestDeep(t *testing.T) {
	deep(t, nil, 0)
	deep(t, &cache.Cache{}, 0)
	c, d := fresh(16)
	deep(t, c, 0)
	put(t, c, 1, 9, of(0, 1))
	deep(t, c, 1)
	put(t, c, 2, 8, of(0, 1))
	deep(t, c, 1)
	put(t, c, 3, 8, of(0, 1, 2))
	deep(t, c, 2)
	put(t, c, 4, 8, of(1, 3, 4), 1)
	deep(t, c, 3)
	put(t, c, 5, 7, of(0, 1), 1)
	put(t, c, 6, 8, of(200, 1))
	deep(t, c, 3)
	put(t, c, 7, 3, of(0, 1), 4, 5)
	deep(t, c, 4)
	d.Fuse(0)
	round(t, c, api.ErrDown)
	deep(t, c, 4)
	d.Up()
	for _, k := range [][2]int{{3, 4}, {9, 4}, {8, 2}, {3, 2}, {7, 1}, {3, 0}} {
		if err := c.Flush(k[0]); err != api.OK {
			t.Fatal(err)
		}
		deep(t, c, k[1])
	}
}

// grown tells a cache with any changes, some of which are done, and its device; always the same of the same seed.
func grown(t *testing.T, seed int) (*cache.Cache, *disk.Disk) {
	t.Helper()
	r := rand.New(rand.NewSource(int64(seed)))
	c, d := fresh(16)
	blocks, room := 1+r.Intn(8), 1+r.Intn(250)
	for range r.Intn(40) {
		if r.Intn(8) == 0 {
			if err := c.Flush(r.Intn(blocks)); err != api.OK {
				t.Fatal(err)
			}
		}
		var needs []int
		for range r.Intn(3) {
			if c.Last() > 0 {
				needs = append(needs, 1+r.Intn(c.Last()))
			}
		}
		put(t, c, c.Last()+1, r.Intn(blocks), of(r.Intn(room), byte(r.Intn(256)), byte(r.Intn(256))), needs...)
	}
	return c, d
}

// weight tells any weight's bits, those at the edges often.
func weight(r *rand.Rand) uint64 {
	edges := []uint64{nought, withSign, noNumber, 1, one - 1, one, infinity, infinity | 1<<63, math.MaxUint64}
	switch r.Intn(4) {
	case 0:
		return edges[r.Intn(len(edges))]
	case 1:
		return r.Uint64()
	}
	return math.Float64bits(r.Float64())
}

func views(t *testing.T, c *cache.Cache) []api.Block {
	t.Helper()
	var l []api.Block
	for no := range 16 {
		b, err := c.Get(no)
		if err != api.OK {
			t.Fatal(err)
		}
		l = append(l, b)
	}
	return l
}

// The calls as the chapter's words have them.

func wantedStep(c *cache.Cache, w uint64) (int, api.Errno) {
	dirty := c.Dirty()
	if len(dirty) == 0 {
		return -1, api.OK
	}
	no := dirty[pick.At(len(dirty), math.Float64frombits(w))]
	return no, c.Flush(no)
}

func wantedRound(c *cache.Cache) api.Errno {
	err := api.OK
	for _, no := range c.Dirty() {
		if err == api.OK {
			err = c.Flush(no)
		}
	}
	return err
}

// wantedDeep looks at each change by ready.Waits, from the first one on.
func wantedDeep(l []api.Change) int {
	depths, deepest := map[int]int{}, 0
	for _, made := range l {
		for _, ahead := range ready.Waits(l, made.ID) {
			depths[made.ID] = max(depths[made.ID], depths[ahead])
		}
		depths[made.ID]++
		deepest = max(deepest, depths[made.ID])
	}
	return deepest
}

// Promises 13.1 and 13.2: of any changes, and wherever the power fails, each call tells and does what the chapter's words say.
func TestAsTheWordsSay(t *testing.T) {
	for seed := range 300 {
		c, d := grown(t, seed)
		twin, same := grown(t, seed)
		r := rand.New(rand.NewSource(int64(seed)))
		for range 30 {
			fuse := r.Intn(12) - 1
			d.Fuse(fuse)
			same.Fuse(fuse)
			var did, wanted int
			var err, want api.Errno
			switch r.Intn(4) {
			case 0:
				err, want = sched.Round(c), wantedRound(twin)
			case 1:
				most := r.Intn(3) - 1
				did, err = sched.Rounds(c, most)
				for wanted < most && len(twin.Dirty()) > 0 && want == api.OK {
					if want = wantedRound(twin); want == api.OK {
						wanted++
					}
				}
			case 2:
				l := make([]uint64, r.Intn(4))
				for i := range l {
					l[i] = weight(r)
				}
				did, err = sched.Run(c, l)
				for wanted < len(l) && want == api.OK {
					if _, want = wantedStep(twin, l[wanted]); want == api.OK {
						wanted++
					}
				}
			default:
				w := weight(r)
				did, err = sched.Step(c, w)
				wanted, want = wantedStep(twin, w)
			}
			if did != wanted || err != want {
				t.Fatalf("told: %d %v, want %d %v", did, err, wanted, want)
			}
			if !slices.Equal(d.Image(), same.Image()) || d.Writes() != same.Writes() || d.Down() != same.Down() || !slices.Equal(ids(c.Left()), ids(twin.Left())) {
				t.Fatalf("%d writes and left %v, want %d and %v", d.Writes(), ids(c.Left()), same.Writes(), ids(twin.Left()))
			}
			d.Up()
			same.Up()
		}
	}
}

// Promise 13.2: Deep is the greatest graph.Depth of what is left.
func TestDeepOfAll(t *testing.T) {
	for seed := range 300 {
		c, _ := grown(t, seed)
		left, greatest := c.Left(), 0
		for _, made := range left {
			greatest = max(greatest, graph.Depth(left, made.ID))
		}
		if wanted := wantedDeep(left); greatest != wanted {
			t.Fatalf("the greatest Depth of %v: %d, want %d", left, greatest, wanted)
		}
		deep(t, c, greatest)
		if !slices.Equal(ids(c.Left()), ids(left)) {
			t.Fatalf("left: %v, was %v", ids(c.Left()), ids(left))
		}
	}
}

// Promise 13.3: each round makes Deep less by one at least, so behind as many nothing is left; where each block stands ahead of what it needs just as many are needed.
func TestDeepManyRounds(t *testing.T) {
	for seed := range 300 {
		c, _ := grown(t, seed)
		most := sched.Deep(c)
		for was := most; was > 0; was = sched.Deep(c) {
			round(t, c, api.OK)
			if got := sched.Deep(c); got >= was {
				t.Fatalf("Deep: %d behind a round, was %d", got, was)
			}
		}
		again, _ := grown(t, seed)
		if n, err := sched.Rounds(again, most); n > most || err != api.OK || len(again.Left()) != 0 || sched.Deep(again) != 0 {
			t.Fatalf("Rounds(%d): %d %v, %d left", most, n, err, len(again.Left()))
		}
	}
	c, _ := fresh(16)
	row(t, c, 15, 14, 13, 12, 11, 10, 9, 8)
	for left := 8; left > 0; left-- {
		deep(t, c, left)
		round(t, c, api.OK)
	}
	deep(t, c, 0)
}

// Promise 13.4: whatever is picked, and wherever the power fails, what is seen is the same; behind it all it is what the device has.
func TestViewsStay(t *testing.T) {
	for seed := range 150 {
		c, d := grown(t, seed)
		want := views(t, c)
		r := rand.New(rand.NewSource(int64(seed)))
		for range 25 {
			d.Fuse(r.Intn(4) - 1)
			sched.Step(c, weight(r))
			sched.Run(c, []uint64{weight(r), weight(r)})
			d.Up()
			if !slices.Equal(views(t, c), want) {
				t.Fatalf("what is seen has changed")
			}
		}
		if _, err := sched.Rounds(c, math.MaxInt); err != api.OK || len(c.Left()) != 0 {
			t.Fatalf("Rounds: %v, %d left", err, len(c.Left()))
		}
		if !slices.Equal(views(t, c), want) || !slices.Equal(d.Image(), want) {
			t.Fatalf("what is seen has changed, or is not on the device")
		}
	}
}

// P1: of long lists each change is not gone through by itself.
func TestLongLists(t *testing.T) {
	const n = 1 << 15
	rising, d := fresh(512)
	for id := 1; id <= n; id++ {
		row(t, rising, id%512)
	}
	deep(t, rising, n)
	l := slices.Repeat([]uint64{half}, n)
	run(t, rising, l, n, api.OK)
	if got, err := sched.Rounds(rising, n); err != api.OK || got > n/500 || len(rising.Left()) != 0 || d.Writes() != n {
		t.Errorf("Rounds: %d %v, %d writes", got, err, d.Writes())
	}

	falling, _ := fresh(512)
	for id := 1; id <= n/8; id++ {
		row(t, falling, 511-id%512)
	}
	deep(t, falling, n/8)
	if got, err := sched.Rounds(falling, math.MaxInt); err != api.OK || got < n/9 || len(falling.Left()) != 0 {
		t.Errorf("Rounds: %d %v", got, err)
	}
	run(t, falling, l, n, api.OK)
}
