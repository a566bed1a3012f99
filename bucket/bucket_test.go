package bucket_test

import (
	"math"
	"math/rand"
	"slices"
	"strings"
	"testing"

	"escheat/api"
	"escheat/bucket"
	"escheat/patch"
)

// longest is a name of 24 bytes.
const longest = "abcdefghijklmnopqrstuvwx"

// names are names of all lengths, some with bytes of all kinds.
func names() []string {
	l := []string{"a", "b", "A", " ", "...", ".a", "a.", "\xff", "\x01", "ab", "abc", "bkt!", longest, strings.Repeat("\xff", 24), strings.Repeat(".", 24)}
	for n := 1; n <= 24; n++ {
		l = append(l, strings.Repeat("z", n))
	}
	return l
}

// noNames are texts that are no names.
func noNames() []string {
	return []string{"", ".", "..", "/", "a/b", "/a", "a/", "\x00", "a\x00", "\x00a", "a\x00b", longest + "y", strings.Repeat("n", 255), strings.Repeat("n", 256), strings.Repeat("n", 257), strings.Repeat("n", 1000)}
}

// noInos are numbers that no entry can have; of some of them the two bytes would be those of one that it can have.
func noInos() []int {
	return []int{0, -1, -2, -128, 129, 130, 255, 256, 257, 65535, 65536, 65537, 65664, 1 << 32, 1<<32 + 1, 1<<48 + 5, math.MinInt, math.MinInt + 1, math.MaxInt, math.MinInt32, math.MaxInt32}
}

// noSlots are numbers that are no slot; of some of them 32 times the number wraps round to a place of the block.
func noSlots() []int {
	return []int{-1, -2, -7, -8, 7, 8, 9, 15, 31, 32, 255, 256, math.MinInt32, math.MaxInt32, 1 << 32, 1 << 59, 1<<59 + 1, 1<<59 + 6, 1<<60 - 1, 1<<62 + 3, math.MinInt, math.MinInt + 1, math.MinInt + 6, math.MaxInt - 6, math.MaxInt}
}

// others are entries that may not be.
func others() []api.Entry {
	var l []api.Entry
	for _, s := range noNames() {
		l = append(l, api.Entry{Name: s, Ino: 1})
	}
	for _, ino := range noInos() {
		l = append(l, api.Entry{Name: "a", Ino: ino})
	}
	return append(l, api.Entry{}, api.Entry{Name: "..", Ino: 200})
}

// some are entries that may be.
func some() []api.Entry {
	var l []api.Entry
	for k, s := range names() {
		l = append(l, api.Entry{Name: s, Ino: 1 + k*37%128})
	}
	return append(l, api.Entry{Name: "least", Ino: 1}, api.Entry{Name: "greatest", Ino: 128})
}

// bytes tells an entry's 32 bytes, whether it may be or not, as far as it has room.
func bytes(e api.Entry) [32]byte {
	var b [32]byte
	b[0], b[1], b[2] = byte(e.Ino), byte(e.Ino>>8), byte(len(e.Name))
	copy(b[3:27], e.Name)
	return b
}

// begun tells how a right bucket begins.
func begun() [32]byte {
	return [32]byte{'b', 'k', 't', '!'}
}

// of tells the block that begins like this, and has these seven pieces behind it.
func of(begin [32]byte, pieces [7][32]byte) api.Block {
	var b api.Block
	copy(b[:], begin[:])
	for k := range pieces {
		copy(b[32+32*k:], pieces[k][:])
	}
	return b
}

// piece tells the bytes of the slot k.
func piece(b api.Block, k int) [32]byte {
	var l [32]byte
	for at := range b {
		if at/32 == k+1 {
			l[at%32] = b[at]
		}
	}
	return l
}

// entry reads a slot's bytes one by one, without what the packages below tell.
func entry(b [32]byte) (api.Entry, bool) {
	ino, n := int(b[0])+256*int(b[1]), int(b[2])
	if ino < 1 || ino > 128 || n < 1 || n > 24 {
		return api.Entry{}, false
	}
	for at, v := range b[3:] {
		if at < n && (v == 0 || v == '/') || at >= n && v != 0 {
			return api.Entry{}, false
		}
	}
	if b == bytes(api.Entry{Name: ".", Ino: ino}) || b == bytes(api.Entry{Name: "..", Ino: ino}) {
		return api.Entry{}, false
	}
	return api.Entry{Name: string(b[3 : 3+n]), Ino: ino}, true
}

// list tells what List ought to.
func list(b api.Block) []bucket.Slot {
	var l []bucket.Slot
	for k := range 7 {
		if e, is := entry(piece(b, k)); is {
			l = append(l, bucket.Slot{At: k, Entry: e})
		}
	}
	return l
}

// right tells what Right ought to, by the words of the chapter.
func right(b api.Block) bool {
	if [32]byte(b[:32]) != begun() {
		return false
	}
	seen := map[string]int{}
	for k := range 7 {
		e, is := entry(piece(b, k))
		if !is && piece(b, k) != ([32]byte{}) {
			return false
		}
		if is {
			seen[e.Name]++
		}
		if seen[e.Name] > 1 {
			return false
		}
	}
	return true
}

// fixed tells what Fix ought to.
func fixed(b api.Block) api.Block {
	var pieces [7][32]byte
	seen := map[string]int{}
	for k := range 7 {
		e, is := entry(piece(b, k))
		if !is {
			continue
		}
		if seen[e.Name] == 0 {
			pieces[k] = piece(b, k)
		}
		seen[e.Name]++
	}
	return of(begun(), pieces)
}

// spoilt are bytes that are no entry's, just a little.
func spoilt() [][32]byte {
	whole, short := bytes(api.Entry{Name: longest, Ino: 5}), bytes(api.Entry{Name: "ab", Ino: 5})
	var l [][32]byte
	for at := 27; at < 32; at++ {
		next := whole
		next[at] = 1
		l = append(l, next)
	}
	for _, at := range []int{5, 6, 15, 26, 27, 31} {
		next := short
		next[at] = 'c'
		l = append(l, next)
	}
	for _, n := range []byte{0, 1, 3, 24, 25, 26, 255} {
		next := short
		next[2] = n
		l = append(l, next)
	}
	for _, e := range others() {
		if e != (api.Entry{}) && e.Ino != 1<<32+1 && e.Ino != 65537 && e.Ino != 65664 && e.Ino != 1<<48+5 && e.Ino != math.MinInt+1 {
			l = append(l, bytes(e))
		}
	}
	return append(l, [32]byte{0: 1}, [32]byte{1: 1}, [32]byte{31: 1}, [32]byte{2: 1}, [32]byte{0: 1, 2: 1}, [32]byte{2: 1, 3: 'a'})
}

// blocks are blocks of all kinds: right ones, ones with spoilt slots, with names that stand twice, with other beginnings, and bytes at random.
func blocks(n int) []api.Block {
	var ones, rising api.Block
	for at := range ones {
		ones[at], rising[at] = 255, byte(at)
	}
	l := []api.Block{{}, ones, rising, of(begun(), [7][32]byte{})}
	r := rand.New(rand.NewSource(18))
	good, bad := some(), spoilt()
	few := good[:4]
	for range n {
		var clean, mixed, twice [7][32]byte
		var all api.Block
		r.Read(all[:])
		for at, k := range r.Perm(len(good))[:7] {
			clean[at] = bytes(good[k])
			mixed[at] = [][32]byte{{}, clean[at], clean[at], bad[r.Intn(len(bad))]}[r.Intn(4)]
			twice[at] = bytes(api.Entry{Name: few[r.Intn(4)].Name, Ino: 1 + r.Intn(128)})
			if r.Intn(3) == 0 {
				clean[at], twice[at] = [32]byte{}, [32]byte{}
			}
		}
		begin := begun()
		if r.Intn(3) == 0 {
			begin[r.Intn(32)] ^= byte(1 + r.Intn(255))
		}
		l = append(l, all, of(begun(), clean), of(begin, clean), of(begun(), mixed), of(begin, mixed), of(begun(), twice))
	}
	return l
}

// alike tells whether both patches have the same place and bytes.
func alike(p, q api.Patch) bool {
	return p.At == q.At && slices.Equal(p.Data, q.Data)
}

// Promise 18.1: of each number of entries up to seven, whatever they are.
func TestNew(t *testing.T) {
	r := rand.New(rand.NewSource(181))
	good := some()
	for range 300 {
		for n := range 8 {
			var l []api.Entry
			var pieces [7][32]byte
			for at, k := range r.Perm(len(good))[:n] {
				e := api.Entry{Name: good[k].Name, Ino: 1 + r.Intn(128)}
				l, pieces[at] = append(l, e), bytes(e)
			}
			handed := slices.Clone(l)
			got, err := bucket.New(l)
			if got != of(begun(), pieces) || err != api.OK {
				t.Fatalf("New of %v: %v %d", l, got, err)
			}
			if !bucket.Right(got) {
				t.Fatalf("New of %v is not right", l)
			}
			if !slices.Equal(l, handed) {
				t.Fatalf("New changed %v", handed)
			}
		}
	}
}

// Promise 18.1: by hand; of no entry a bucket without any, not noughts.
func TestNewByHand(t *testing.T) {
	empty := api.Block{0: 'b', 1: 'k', 2: 't', 3: '!'}
	for _, l := range [][]api.Entry{nil, {}} {
		if got, err := bucket.New(l); got != empty || err != api.OK {
			t.Errorf("New of none: %v %d", got, err)
		}
	}
	one := empty
	one[32], one[34], one[35] = 5, 1, 'a'
	if got, err := bucket.New([]api.Entry{{Name: "a", Ino: 5}}); got != one || err != api.OK {
		t.Errorf("New of a: %v %d", got, err)
	}
	two := one
	two[64], two[66], two[67], two[68] = 128, 2, 'x', 255
	if got, err := bucket.New([]api.Entry{{Name: "a", Ino: 5}, {Name: "x\xff", Ino: 128}}); got != two || err != api.OK {
		t.Errorf("New of two: %v %d", got, err)
	}
}

// Promise 18.1: the errors, in their order, wherever in the list they stand.
func TestNewErrors(t *testing.T) {
	a, b, wrong := api.Entry{Name: "a", Ino: 1}, api.Entry{Name: "b", Ino: 2}, api.Entry{Name: "..", Ino: 1}
	twice := api.Entry{Name: "a", Ino: 9}
	seven := []api.Entry{a, b, {Name: "c", Ino: 1}, {Name: "d", Ino: 1}, {Name: "e", Ino: 1}, {Name: "f", Ino: 1}, {Name: "g", Ino: 1}}
	for n, c := range []struct {
		l    []api.Entry
		want api.Errno
	}{
		{append(slices.Clone(seven), api.Entry{Name: "h", Ino: 1}), api.ErrBig},
		{append(slices.Clone(seven), wrong), api.ErrBig},
		{append([]api.Entry{wrong}, seven...), api.ErrBig},
		{append(slices.Clone(seven), a), api.ErrBig},
		{make([]api.Entry, 8), api.ErrBig},
		{make([]api.Entry, 1000), api.ErrBig},
		{make([]api.Entry, 7), api.ErrArg},
		{[]api.Entry{wrong}, api.ErrArg},
		{[]api.Entry{a, b, wrong}, api.ErrArg},
		{[]api.Entry{a, twice, wrong}, api.ErrArg},
		{[]api.Entry{wrong, a, twice}, api.ErrArg},
		{[]api.Entry{wrong, wrong}, api.ErrArg},
		{append(slices.Clone(seven[:6]), wrong), api.ErrArg},
		{[]api.Entry{a, a}, api.ErrExist},
		{[]api.Entry{a, twice}, api.ErrExist},
		{[]api.Entry{a, b, twice}, api.ErrExist},
		{[]api.Entry{b, a, twice}, api.ErrExist},
		{append(slices.Clone(seven[:6]), twice), api.ErrExist},
		{append([]api.Entry{{Name: "g", Ino: 3}}, seven[1:]...), api.ErrExist},
		{seven, api.OK},
		{[]api.Entry{a, {Name: "A", Ino: 1}, {Name: "aa", Ino: 1}, {Name: "b", Ino: 1}}, api.OK},
	} {
		got, err := bucket.New(c.l)
		if err != c.want || err != api.OK && got != (api.Block{}) {
			t.Errorf("case %d: %d, want %d; %v", n, err, c.want, got)
		}
	}
	for _, e := range others() {
		for at := range 7 {
			l := slices.Clone(seven)
			l[at] = e
			if got, err := bucket.New(l); err != api.ErrArg || got != (api.Block{}) {
				t.Errorf("New with %v at %d: %d %v", e, at, err, got)
			}
		}
	}
}

// Promise 18.2: of any block; entries count however it begins, and whether their names stand twice.
func TestList(t *testing.T) {
	listed := 0
	for n, b := range blocks(1000) {
		got, want := bucket.List(b), list(b)
		if !slices.Equal(got, want) {
			t.Fatalf("block %d: List: %v, want %v", n, got, want)
		}
		listed += len(got)
	}
	if listed < 3000 {
		t.Errorf("just %d slots were listed", listed)
	}
}

// Promise 18.2: bytes that are no entry's are in no list, found by no name, and no room.
func TestSpoilt(t *testing.T) {
	for _, l := range spoilt() {
		for k := range 7 {
			var pieces [7][32]byte
			for at := range k {
				pieces[at] = bytes(api.Entry{Name: names()[at], Ino: 1})
			}
			pieces[k] = l
			b := of(begun(), pieces)
			if got := bucket.List(b); len(got) != k {
				t.Errorf("%v at %d: List: %v", l, k, got)
			}
			for _, s := range append(noNames(), "ab", longest, "abc", "a") {
				if got, is := bucket.Find(b, s); is && got.At == k {
					t.Errorf("%v at %d: %q is found", l, k, s)
				}
			}
			got, is := bucket.Room(b)
			if k < 6 && (got != k+1 || !is) || k == 6 && (got != 0 || is) {
				t.Errorf("%v at %d: Room: %d %v", l, k, got, is)
			}
			if bucket.Right(b) {
				t.Errorf("%v at %d is right", l, k)
			}
		}
	}
}

// Promise 18.2: the first slot of that name, of any block and text.
func TestFind(t *testing.T) {
	texts := append(names(), noNames()...)
	found, not := 0, 0
	for n, b := range blocks(300) {
		for _, s := range texts {
			var want bucket.Slot
			any := false
			for _, slot := range slices.Backward(list(b)) {
				if slot.Entry.Name == s {
					want, any = slot, true
				}
			}
			if got, is := bucket.Find(b, s); got != want || is != any {
				t.Fatalf("block %d: Find of %q: %v %v, want %v %v", n, s, got, is, want, any)
			}
			if any {
				found++
			} else {
				not++
			}
		}
	}
	if found < 1000 || not < 1000 {
		t.Errorf("too few of one kind: %d found, %d not", found, not)
	}
}

// Promise 18.2: the first slot of noughts, of each set of slots that have bytes, spoilt ones too.
func TestRoom(t *testing.T) {
	full := append(spoilt(), bytes(api.Entry{Name: "a", Ino: 1}))
	for at := range 32 {
		var single [32]byte
		single[at] = 128
		full = append(full, single)
	}
	for bits := range 128 {
		for n := range full {
			var pieces [7][32]byte
			first := 7
			for k := range 7 {
				if bits>>k&1 == 1 {
					pieces[k] = full[(n+k)%len(full)]
				} else {
					first = min(first, k)
				}
			}
			got, is := bucket.Room(of(begun(), pieces))
			if first < 7 && (got != first || !is) || first == 7 && (got != 0 || is) {
				t.Fatalf("Room of %b: %d %v", bits, got, is)
			}
		}
	}
	if got, is := bucket.Room(api.Block{}); got != 0 || !is {
		t.Errorf("Room of noughts: %d %v", got, is)
	}
	if got, is := bucket.Room(api.Block{31: 1, 63: 1}); got != 1 || !is {
		t.Errorf("Room beside the last byte of the slot 0: %d %v", got, is)
	}
}

// Promise 18.2: right is what the words of the chapter say.
func TestRight(t *testing.T) {
	are, not := 0, 0
	for n, b := range blocks(1000) {
		got, want := bucket.Right(b), right(b)
		if got != want {
			t.Fatalf("block %d: Right: %v", n, got)
		}
		if got {
			are++
		} else {
			not++
		}
	}
	if are < 1000 || not < 1000 {
		t.Errorf("too few of one kind: %d right, %d not", are, not)
	}
}

// Promise 18.2: by hand; each byte of how it begins counts.
func TestRightByHand(t *testing.T) {
	b, err := bucket.New([]api.Entry{{Name: "a", Ino: 1}, {Name: "b", Ino: 1}})
	if err != api.OK || !bucket.Right(b) {
		t.Fatalf("a bucket of two is not right: %d", err)
	}
	for at := range 32 {
		other := b
		other[at]++
		if bucket.Right(other) {
			t.Errorf("right, with another byte %d", at)
		}
	}
	twice := b
	twice[67] = 'a'
	if bucket.Right(twice) {
		t.Error("right, with a name twice")
	}
	apart := of(begun(), [7][32]byte{1: bytes(api.Entry{Name: "a", Ino: 1}), 6: bytes(api.Entry{Name: "a", Ino: 2})})
	if bucket.Right(apart) {
		t.Error("right, with a name twice, and room between")
	}
	between := of(begun(), [7][32]byte{3: bytes(api.Entry{Name: "a", Ino: 1}), 6: bytes(api.Entry{Name: "b", Ino: 1})})
	if !bucket.Right(between) {
		t.Error("not right, with room between")
	}
	if bucket.Right(api.Block{}) {
		t.Error("noughts are right")
	}
}

// Promise 18.3: the 32 bytes of the slot, noughts too.
func TestPut(t *testing.T) {
	for k := range 7 {
		for _, e := range some() {
			want := bytes(e)
			got, err := bucket.Put(k, e)
			if !alike(got, api.Patch{At: 32 + 32*k, Data: want[:]}) || err != api.OK {
				t.Fatalf("Put of %v at %d: %v %d", e, k, got, err)
			}
			if patch.Check(got) != api.OK {
				t.Fatalf("Put of %v at %d may not be", e, k)
			}
		}
		got, err := bucket.Clear(k)
		if !alike(got, api.Patch{At: 32 + 32*k, Data: make([]byte, 32)}) || err != api.OK {
			t.Errorf("Clear of %d: %v %d", k, got, err)
		}
		for ino := 1; ino <= 128; ino++ {
			got, err := bucket.Point(k, ino)
			if !alike(got, api.Patch{At: 32 + 32*k, Data: []byte{byte(ino), 0}}) || err != api.OK {
				t.Errorf("Point of %d at %d: %v %d", ino, k, got, err)
			}
		}
	}
}

// Promise 18.3: ErrRange ahead of ErrArg, and the zero patch beside each.
func TestPutErrors(t *testing.T) {
	for _, k := range noSlots() {
		for _, e := range append(some(), others()...) {
			if got, err := bucket.Put(k, e); !alike(got, api.Patch{}) || err != api.ErrRange {
				t.Errorf("Put of %v at %d: %v %d", e, k, got, err)
			}
		}
		if got, err := bucket.Clear(k); !alike(got, api.Patch{}) || err != api.ErrRange {
			t.Errorf("Clear of %d: %v %d", k, got, err)
		}
		for _, ino := range append(noInos(), 1, 64, 128) {
			if got, err := bucket.Point(k, ino); !alike(got, api.Patch{}) || err != api.ErrRange {
				t.Errorf("Point of %d at %d: %v %d", ino, k, got, err)
			}
		}
	}
	for k := range 7 {
		for _, e := range others() {
			if got, err := bucket.Put(k, e); !alike(got, api.Patch{}) || err != api.ErrArg {
				t.Errorf("Put of %v at %d: %v %d", e, k, got, err)
			}
		}
		for _, ino := range noInos() {
			if got, err := bucket.Point(k, ino); !alike(got, api.Patch{}) || err != api.ErrArg {
				t.Errorf("Point of %d at %d: %v %d", ino, k, got, err)
			}
		}
	}
}

// Promise 18.4: of any block.
func TestFix(t *testing.T) {
	for n, b := range blocks(1000) {
		if got, want := bucket.Fix(b), fixed(b); got != want {
			t.Fatalf("block %d: Fix: %v, want %v", n, got, want)
		}
	}
}

// Promise 18.4: by hand; of three slots of one name the first one stays, where it is; a spoilt one ahead of it has no name.
func TestFixByHand(t *testing.T) {
	first, second, third := bytes(api.Entry{Name: "a", Ino: 3}), bytes(api.Entry{Name: "a", Ino: 2}), bytes(api.Entry{Name: "a", Ino: 1})
	wrong := bytes(api.Entry{Name: "a", Ino: 129})
	other := bytes(api.Entry{Name: "b", Ino: 128})
	b := of([32]byte{5: 9}, [7][32]byte{wrong, {}, first, second, other, third, {30: 1}})
	want := of(begun(), [7][32]byte{2: first, 4: other})
	if got := bucket.Fix(b); got != want {
		t.Errorf("Fix: %v", got)
	}
	if got := bucket.Fix(api.Block{}); got != of(begun(), [7][32]byte{}) {
		t.Errorf("Fix of noughts: %v", got)
	}
}

// Promise 18.5: what is fixed is right, and stays as it is; what is right is fixed as it is.
func TestFixIsRight(t *testing.T) {
	for n, b := range blocks(1000) {
		got := bucket.Fix(b)
		if !bucket.Right(got) || bucket.Fix(got) != got {
			t.Fatalf("block %d: what is fixed is not right", n)
		}
		if bucket.Right(b) != (got == b) {
			t.Fatalf("block %d: right, and not fixed as it is, or the other way", n)
		}
	}
}

// without tells the slots but that of the place k.
func without(l []bucket.Slot, k int) []bucket.Slot {
	return slices.DeleteFunc(slices.Clone(l), func(s bucket.Slot) bool { return s.At == k })
}

// Promise 18.5: what is put in is found, what is cleared is not, what is pointed keeps its name, and each other name is as it was.
func TestPutIsFound(t *testing.T) {
	e := api.Entry{Name: "new", Ino: 77}
	for n, b := range blocks(300) {
		b = bucket.Fix(b)
		before := bucket.List(b)
		if k, is := bucket.Room(b); is {
			p, _ := bucket.Put(k, e)
			put := patch.Lay(b, p)
			if got, found := bucket.Find(put, "new"); got != (bucket.Slot{At: k, Entry: e}) || !found {
				t.Fatalf("block %d: what is put is %v %v", n, got, found)
			}
			if !slices.Equal(without(bucket.List(put), k), before) || !bucket.Right(put) {
				t.Fatalf("block %d: Put changed another slot", n)
			}
		}
		for _, s := range before {
			p, _ := bucket.Clear(s.At)
			cleared := patch.Lay(b, p)
			if got, found := bucket.Find(cleared, s.Entry.Name); found {
				t.Fatalf("block %d: what is cleared is %v", n, got)
			}
			if !slices.Equal(bucket.List(cleared), without(before, s.At)) || !bucket.Right(cleared) {
				t.Fatalf("block %d: Clear changed another slot", n)
			}
			p, _ = bucket.Point(s.At, 99)
			pointed := patch.Lay(b, p)
			if got, found := bucket.Find(pointed, s.Entry.Name); got != (bucket.Slot{At: s.At, Entry: api.Entry{Name: s.Entry.Name, Ino: 99}}) || !found {
				t.Fatalf("block %d: what is pointed is %v %v", n, got, found)
			}
			if !slices.Equal(without(bucket.List(pointed), s.At), without(before, s.At)) || !bucket.Right(pointed) {
				t.Fatalf("block %d: Point changed another slot", n)
			}
		}
	}
}

// Promise R4: lists and patches are new memory.
func TestIsNew(t *testing.T) {
	b, _ := bucket.New([]api.Entry{{Name: "a", Ino: 1}, {Name: "b", Ino: 2}})
	one, two := bucket.List(b), bucket.List(b)
	one[0].At, one[1].Entry.Ino = 6, 7
	if two[0].At != 0 || two[1].Entry.Ino != 2 {
		t.Error("two lists share memory")
	}
	for n, make := range []func() api.Patch{
		func() api.Patch { p, _ := bucket.Put(3, api.Entry{Name: "a", Ino: 1}); return p },
		func() api.Patch { p, _ := bucket.Clear(3); return p },
		func() api.Patch { p, _ := bucket.Point(3, 9); return p },
	} {
		one, two := make(), make()
		was := slices.Clone(two.Data)
		for at := range one.Data {
			one.Data[at] ^= 0x5a
		}
		if !slices.Equal(two.Data, was) || !slices.Equal(make().Data, was) {
			t.Errorf("case %d: two patches share memory", n)
		}
	}
}

// The chapter's example.
func TestExample(t *testing.T) {
	b, err := bucket.New([]api.Entry{{Name: "a", Ino: 5}})
	if err != api.OK {
		t.Fatalf("New: %d", err)
	}
	if got := bucket.List(b); !slices.Equal(got, []bucket.Slot{{At: 0, Entry: api.Entry{Name: "a", Ino: 5}}}) {
		t.Errorf("List: %v", got)
	}
	if got, is := bucket.Room(b); got != 1 || !is {
		t.Errorf("Room: %d %v", got, is)
	}
}

// Promise P1: every call ends, whatever it is given.
func TestAnyArguments(t *testing.T) {
	r := rand.New(rand.NewSource(1818))
	texts := append(names(), noNames()...)
	numbers := slices.Concat(noSlots(), noInos(), []int{0, 1, 2, 3, 4, 5, 6, 64, 128})
	for range 5000 {
		var b api.Block
		r.Read(b[:])
		l := make([]api.Entry, r.Intn(12))
		for k := range l {
			l[k] = api.Entry{Name: texts[r.Intn(len(texts))], Ino: numbers[r.Intn(len(numbers))]}
		}
		bucket.New(l)
		bucket.Right(b)
		bucket.List(b)
		bucket.Find(b, texts[r.Intn(len(texts))])
		bucket.Room(b)
		bucket.Put(numbers[r.Intn(len(numbers))], api.Entry{Name: texts[r.Intn(len(texts))], Ino: numbers[r.Intn(len(numbers))]})
		bucket.Clear(numbers[r.Intn(len(numbers))])
		bucket.Point(numbers[r.Intn(len(numbers))], numbers[r.Intn(len(numbers))])
		bucket.Fix(b)
	}
}
