package disk_test

import (
	"math"
	"math/rand"
	"slices"
	"testing"

	"escheat/api"
	"escheat/disk"
)

// block tells one that is no nought anywhere, and unlike that of any other number below 251.
func block(v int) api.Block {
	b := api.Block{}
	for at := range b {
		b[at] = byte(1 + (v+at)%251)
	}
	return b
}

func blocks(n int) []api.Block {
	l := make([]api.Block, n)
	for no := range l {
		l[no] = block(no)
	}
	return l
}

// from tells a device of n blocks, none of which is like another one near it.
func from(t *testing.T, n int) *disk.Disk {
	t.Helper()
	d, err := disk.From(blocks(n))
	if err != api.OK || d == nil {
		t.Fatalf("From of %d blocks: %v", n, err)
	}
	return d
}

// out are numbers of blocks that a device of n blocks has not.
func out(n int) []int {
	return []int{math.MinInt, math.MinInt + 1, math.MinInt32, -512, -n - 1, -n, -2, -1, n, n + 1, n + 255, 2 * n, 512, 513, 65536, math.MaxInt32, 1 << 32, 1<<32 + 1, math.MaxInt - 1, math.MaxInt}
}

// want is a device as it ought to be; its fuse is -1, if there is none.
type want struct {
	blocks        []api.Block
	down          bool
	fuse          int
	writes, reads int
}

func whole(n int) *want {
	return &want{blocks: blocks(n), fuse: -1}
}

func (w *want) refusal(no int) api.Errno {
	if w.down {
		return api.ErrDown
	}
	if no < 0 || no >= len(w.blocks) {
		return api.ErrRange
	}
	return api.OK
}

func (w *want) read(no int) (api.Block, api.Errno) {
	if err := w.refusal(no); err != api.OK {
		return api.Block{}, err
	}
	w.reads++
	return w.blocks[no], api.OK
}

func (w *want) write(no int, b api.Block) api.Errno {
	if err := w.refusal(no); err != api.OK {
		return err
	}
	if w.fuse == 0 {
		w.down = true
		return api.ErrDown
	}
	if w.fuse > 0 {
		w.fuse--
	}
	w.blocks[no] = b
	w.writes++
	return api.OK
}

// same fails, unless the device tells of itself what it ought to.
func (w *want) same(t *testing.T, d *disk.Disk, when string) {
	t.Helper()
	if d.Size() != len(w.blocks) || d.Down() != w.down || d.Writes() != w.writes || d.Reads() != w.reads {
		t.Fatalf("%s: of %d blocks, down %v, %d writes, %d reads; want %d, %v, %d, %d", when, d.Size(), d.Down(), d.Writes(), d.Reads(), len(w.blocks), w.down, w.writes, w.reads)
	}
	if !slices.Equal(d.Image(), w.blocks) {
		t.Fatalf("%s: other blocks", when)
	}
}

// Promise 8.1: sizes at their edges, and past them.
func TestNew(t *testing.T) {
	sizes := []int{math.MinInt, math.MinInt + 1, math.MinInt32, -65536, -512, -16, math.MaxInt32, 1 << 32, 1<<32 + 16, math.MaxInt - 1, math.MaxInt}
	for n := -20; n <= 600; n++ {
		sizes = append(sizes, n)
	}
	for _, n := range sizes {
		size := n
		if n < 16 {
			size = 16
		}
		if n > 512 {
			size = 512
		}
		d := disk.New(n)
		if d == nil {
			t.Fatalf("New(%d): nil", n)
		}
		w := &want{blocks: make([]api.Block, size), fuse: -1}
		w.same(t, d, "New")
	}
}

// Promise 8.1: a new device has power, and no fuse.
func TestNewWithoutFuse(t *testing.T) {
	made, err := disk.From(make([]api.Block, 512))
	if err != api.OK {
		t.Fatal(err)
	}
	for _, d := range []*disk.Disk{disk.New(512), made} {
		w := &want{blocks: make([]api.Block, 512), fuse: -1}
		for k := range 2000 {
			no, b := k*7%512, block(k)
			if err := d.Write(no, b); err != api.OK {
				t.Fatalf("write %d: %v", k, err)
			}
			w.write(no, b)
		}
		w.same(t, d, "written")
	}
}

// Promise 8.1, R3 and R5: lists of each length; with an error nil is told.
func TestFrom(t *testing.T) {
	for n := range 700 {
		d, err := disk.From(blocks(n))
		if n < 16 || n > 512 {
			if d != nil || err != api.ErrArg {
				t.Fatalf("From of %d blocks: %v, %v", n, d, err)
			}
			continue
		}
		if d == nil || err != api.OK {
			t.Fatalf("From of %d blocks: %v", n, err)
		}
		whole(n).same(t, d, "From")
	}
	for _, l := range [][]api.Block{nil, {}, make([]api.Block, 1<<16)} {
		if d, err := disk.From(l); d != nil || err != api.ErrArg {
			t.Errorf("From of %d blocks: %v, %v", len(l), d, err)
		}
	}
}

// R4: what is handed in is neither changed nor kept.
func TestFromKeepsNothing(t *testing.T) {
	l := blocks(20)
	d, _ := disk.From(l[:16])
	other, _ := disk.From(l[:16])
	if d.Write(3, api.Block{1}) != api.OK || !slices.Equal(l, blocks(20)) {
		t.Error("a write changed what was handed in")
	}
	whole(16).same(t, other, "beside another one")
	clear(l)
	w := whole(16)
	w.write(3, api.Block{1})
	w.same(t, d, "what was handed in is changed")
}

// R4: devices share nothing.
func TestNewSharesNothing(t *testing.T) {
	d, other := disk.New(16), disk.New(16)
	d.Fuse(1)
	d.Write(0, block(1))
	d.Write(0, block(1))
	w := &want{blocks: make([]api.Block, 16), fuse: -1}
	w.same(t, other, "beside another one")
	if other.Write(0, block(2)) != api.OK {
		t.Error("the fuse of another one")
	}
}

// Promise 8.2: each block of devices of some sizes, and numbers out of them.
func TestRead(t *testing.T) {
	for _, n := range []int{16, 17, 100, 511, 512} {
		d, w := from(t, n), whole(n)
		for no := range n {
			if b, err := d.Read(no); err != api.OK || b != block(no) {
				t.Fatalf("Read(%d) of %d blocks: %v", no, n, err)
			}
			if d.Reads() != no+1 {
				t.Fatalf("%d reads behind Read(%d)", d.Reads(), no)
			}
		}
		w.reads = n
		for _, no := range out(n) {
			if b, err := d.Read(no); err != api.ErrRange || b != (api.Block{}) {
				t.Errorf("Read(%d) of %d blocks: %v", no, n, err)
			}
		}
		w.same(t, d, "Read")
	}
}

// Promise 8.2: each block of devices of some sizes, and numbers out of them, which change nothing.
func TestWrite(t *testing.T) {
	for _, n := range []int{16, 17, 100, 511, 512} {
		d, w := from(t, n), whole(n)
		for no := range n {
			b := block(no + 100)
			if err := d.Write(no, b); err != api.OK {
				t.Fatalf("Write(%d) of %d blocks: %v", no, n, err)
			}
			w.write(no, b)
			w.same(t, d, "Write")
		}
		for _, no := range out(n) {
			if err := d.Write(no, api.Block{7}); err != api.ErrRange {
				t.Errorf("Write(%d) of %d blocks: %v", no, n, err)
			}
		}
		w.same(t, d, "writes past it")
	}
}

// Promise 8.2 and the chapter's example: one write, and the power fails ahead of the next.
func TestExample(t *testing.T) {
	d := disk.New(16)
	d.Fuse(1)
	first, second := d.Write(3, api.Block{1}), d.Write(4, api.Block{2})
	if first != api.OK || second != api.ErrDown || !d.Down() {
		t.Errorf("two writes: %v, %v; down: %v", first, second, d.Down())
	}
	if b, err := d.Read(3); err != api.ErrDown || b != (api.Block{}) {
		t.Errorf("Read: %v", err)
	}
	w := &want{blocks: make([]api.Block, 16), down: true, writes: 1}
	w.blocks[3] = api.Block{1}
	w.same(t, d, "the example")
}

// Promises 8.2 and 8.5: with a fuse just so many writes are done, and the power is on till the next one.
func TestFuse(t *testing.T) {
	for fuse := range 40 {
		d, w := from(t, 16), whole(16)
		d.Fuse(fuse)
		for k := range fuse {
			no, b := k%16, block(50+k)
			if err := d.Write(no, b); err != api.OK {
				t.Fatalf("a fuse of %d, write %d: %v", fuse, k, err)
			}
			w.write(no, b)
			w.same(t, d, "a write")
		}
		for range 3 {
			if err := d.Write(5, block(200)); err != api.ErrDown {
				t.Fatalf("a fuse of %d, behind its writes: %v", fuse, err)
			}
			w.down = true
			w.same(t, d, "behind the failure")
			if b, err := d.Read(5); err != api.ErrDown || b != (api.Block{}) {
				t.Fatalf("a fuse of %d, Read behind it: %v", fuse, err)
			}
		}
	}
}

// Promise 8.2: what is read, and what is not written, takes nothing from a fuse; a write to no block is no failure of the power.
func TestFuseTakesWrites(t *testing.T) {
	d, w := from(t, 16), whole(16)
	d.Fuse(1)
	w.fuse = 1
	for _, done := range []int{0, 1} {
		for _, no := range out(16) {
			if err := d.Write(no, block(9)); err != api.ErrRange {
				t.Errorf("Write(%d), %d written: %v", no, done, err)
			}
			if _, err := d.Read(no); err != api.ErrRange {
				t.Errorf("Read(%d), %d written: %v", no, done, err)
			}
		}
		for no := range 16 {
			if b, err := d.Read(no); err != api.OK || b != w.blocks[no] {
				t.Errorf("Read(%d), %d written: %v", no, done, err)
			}
			w.read(no)
		}
		w.same(t, d, "reads")
		if got, err := d.Write(15, block(9)), w.write(15, block(9)); got != err {
			t.Errorf("Write, %d written: %v, want %v", done, got, err)
		}
		w.same(t, d, "a write")
	}
	if !d.Down() {
		t.Error("the power has not failed")
	}
}

// Promise 8.2 and R1: with the power off that is told ahead of a number that there is not.
func TestDownAheadOfRange(t *testing.T) {
	d := from(t, 16)
	d.Fuse(0)
	if err := d.Write(0, block(9)); err != api.ErrDown {
		t.Fatal(err)
	}
	for _, no := range append(out(16), 0, 15) {
		if b, err := d.Read(no); err != api.ErrDown || b != (api.Block{}) {
			t.Errorf("Read(%d): %v", no, err)
		}
		if err := d.Write(no, block(9)); err != api.ErrDown {
			t.Errorf("Write(%d): %v", no, err)
		}
	}
	w := whole(16)
	w.down = true
	w.same(t, d, "without power")
}

// Promise 8.3: below 0 there is no fuse, also where there was one.
func TestFuseBelow0(t *testing.T) {
	for _, n := range []int{-1, -2, -512, math.MinInt32, math.MinInt + 1, math.MinInt} {
		for _, old := range []int{-1, 0, 1, 5} {
			d := disk.New(16)
			d.Fuse(old)
			d.Fuse(n)
			for k := range 100 {
				if err := d.Write(k%16, block(k)); err != api.OK {
					t.Fatalf("Fuse(%d), Fuse(%d), write %d: %v", old, n, k, err)
				}
			}
		}
	}
}

// Promise 8.3: the last fuse counts, and great ones hold long.
func TestFuseAnew(t *testing.T) {
	for _, c := range []struct{ old, done, n, want int }{
		{3, 2, 3, 3}, {3, 2, 0, 0}, {3, 3, 1, 1}, {0, 0, 2, 2}, {100, 1, 1, 1}, {1, 1, 100, 100}, {-1, 5, 4, 4}, {math.MaxInt, 3, 2, 2},
		{2, 1, math.MaxInt, 1000}, {2, 1, 1 << 32, 1000}, {2, 1, math.MaxInt32, 1000},
	} {
		d := disk.New(16)
		d.Fuse(c.old)
		for range c.done {
			d.Write(1, block(1))
		}
		d.Fuse(c.n)
		done := 0
		for done < 1000 && d.Write(2, block(done)) == api.OK {
			done++
		}
		if done != c.want || d.Down() != (done < 1000) || d.Writes() != c.done+done {
			t.Errorf("Fuse(%d), %d writes, Fuse(%d): %d writes, down %v", c.old, c.done, c.n, done, d.Down())
		}
	}
}

// Promise 8.3: a fuse alone neither takes the power away nor brings it back.
func TestFuseLeavesThePower(t *testing.T) {
	d := from(t, 16)
	d.Fuse(0)
	if d.Down() {
		t.Error("down ahead of a write")
	}
	if b, err := d.Read(3); err != api.OK || b != block(3) {
		t.Errorf("Read ahead of a write: %v", err)
	}
	d.Write(3, block(9))
	for _, n := range []int{-1, 0, 1, 5, math.MaxInt, math.MinInt} {
		d.Fuse(n)
		if !d.Down() || d.Write(3, block(9)) != api.ErrDown {
			t.Errorf("Fuse(%d) brought the power back", n)
		}
	}
	d.Fuse(2)
	d.Up()
	for k := range 50 {
		if err := d.Write(3, block(k)); err != api.OK {
			t.Fatalf("a fuse set without power stays: write %d: %v", k, err)
		}
	}
}

// Promise 8.3: the power is on again, and there is no fuse, whether the power was off or not.
func TestUp(t *testing.T) {
	for fuse := -1; fuse <= 5; fuse++ {
		for tries := range 8 {
			d, w := from(t, 16), whole(16)
			d.Fuse(fuse)
			w.fuse = fuse
			for k := range tries {
				if got, err := d.Write(k, block(80+k)), w.write(k, block(80+k)); got != err {
					t.Fatalf("a fuse of %d, write %d: %v, want %v", fuse, k, got, err)
				}
			}
			d.Up()
			w.down, w.fuse = false, -1
			w.same(t, d, "Up")
			for k := range 50 {
				if got, err := d.Write(k%16, block(k)), w.write(k%16, block(k)); got != err {
					t.Fatalf("a fuse of %d, %d writes, Up, write %d: %v", fuse, tries, k, got)
				}
			}
			if b, err := d.Read(15); err != api.OK || b != w.blocks[15] {
				t.Errorf("a fuse of %d, %d writes, Up, Read: %v", fuse, tries, err)
			}
		}
	}
}

// Promise 8.3 and R4: all blocks, also without power, as new memory; nothing of it counts as read.
func TestImage(t *testing.T) {
	d, w := from(t, 16), whole(16)
	for range 2 {
		l := d.Image()
		if !slices.Equal(l, w.blocks) {
			t.Fatalf("other blocks; down: %v", d.Down())
		}
		clear(l)
		w.same(t, d, "the image is changed")
		l = d.Image()
		d.Fuse(1)
		w.fuse = 1
		d.Write(2, block(99))
		if !w.down && !slices.Equal(l, w.blocks) {
			t.Error("a write changed an image")
		}
		w.write(2, block(99))
		d.Write(2, block(100))
		w.write(2, block(100))
		w.same(t, d, "without power")
	}
}

// Promise 8.4.
func TestNil(t *testing.T) {
	var d *disk.Disk
	for _, no := range append(out(16), 0, 1, 15) {
		if b, err := d.Read(no); err != api.ErrArg || b != (api.Block{}) {
			t.Errorf("Read(%d): %v", no, err)
		}
		if err := d.Write(no, block(1)); err != api.ErrArg {
			t.Errorf("Write(%d): %v", no, err)
		}
		d.Fuse(no)
		d.Up()
		if !d.Down() || d.Size() != 0 || d.Writes() != 0 || d.Reads() != 0 || len(d.Image()) != 0 {
			t.Error("what a nil Disk tells of itself")
		}
	}
}

// Promise P1: a device that nobody made has no blocks, and ends all calls.
func TestZero(t *testing.T) {
	d := &disk.Disk{}
	for _, no := range out(16) {
		d.Fuse(no)
		if b, err := d.Read(no); err != api.ErrRange || b != (api.Block{}) {
			t.Errorf("Read(%d): %v", no, err)
		}
		if err := d.Write(0, block(1)); err != api.ErrRange {
			t.Errorf("Write(0): %v", err)
		}
		d.Up()
	}
	if d.Down() || d.Size() != 0 || d.Writes() != 0 || d.Reads() != 0 || len(d.Image()) != 0 {
		t.Error("what a zero Disk tells of itself")
	}
}

// step does a call of both, any one that the numbers of r tell.
func step(t *testing.T, r *rand.Rand, d *disk.Disk, w *want) {
	t.Helper()
	no := r.Intn(len(w.blocks))
	if r.Intn(10) == 0 {
		no = out(len(w.blocks))[r.Intn(10)]
	}
	switch k := r.Intn(20); {
	case k < 8:
		b := block(r.Intn(251))
		if got, err := d.Write(no, b), w.write(no, b); got != err {
			t.Fatalf("Write(%d): %v, want %v", no, got, err)
		}
	case k < 16:
		b, got := d.Read(no)
		if was, err := w.read(no); got != err || b != was {
			t.Fatalf("Read(%d): %v, want %v", no, got, err)
		}
	case k < 18:
		w.fuse = r.Intn(9) - 2
		d.Fuse(w.fuse)
	case w.down || r.Intn(4) == 0:
		d.Up()
		w.down, w.fuse = false, -1
	}
}

// Promises 8.2, 8.3 and 8.5: any calls, in any order.
func TestAnyCalls(t *testing.T) {
	for seed := range int64(60) {
		r := rand.New(rand.NewSource(seed))
		n := 16 + r.Intn(20)
		d, w := from(t, n), whole(n)
		for range 500 {
			step(t, r, d, w)
			w.same(t, d, "any calls")
		}
	}
}
