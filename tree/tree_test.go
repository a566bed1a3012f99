package tree_test

import (
	"encoding/binary"
	"hash/fnv"
	"math"
	"math/rand"
	"reflect"
	"slices"
	"strconv"
	"strings"
	"testing"

	"escheat/api"
	"escheat/cache"
	"escheat/disk"
	"escheat/dread"
	"escheat/fread"
	"escheat/tree"
	"escheat/view"
)

// layouts may be, at the edges of what may.
func layouts() []api.Layout {
	return []api.Layout{{Blocks: 16, Inodes: 8}, {Blocks: 16, Inodes: 16, Merge: 1}, {Blocks: 16, Inodes: 96}, {Blocks: 64, Inodes: 24}, {Blocks: 257, Inodes: 8}, {Blocks: 512, Inodes: 128, Merge: math.MaxUint64}}
}

// others may not be: they have no inodes.
func others() []api.Layout {
	return []api.Layout{{}, {Blocks: 15, Inodes: 8}, {Blocks: 513, Inodes: 8}, {Blocks: 100, Inodes: 0}, {Blocks: 100, Inodes: 9}, {Blocks: 16, Inodes: 112}, {Blocks: 512, Inodes: 136},
		{Blocks: 100, Inodes: -8}, {Blocks: -16, Inodes: 8}, {Blocks: math.MaxInt, Inodes: 8}, {Blocks: 100, Inodes: math.MinInt}}
}

// wild are numbers of inodes that most trees have not.
func wild() []int {
	return []int{math.MinInt, math.MinInt32, -65536, -129, -3, -2, -1, 0, 1, 2, 3, 4, 127, 128, 129, 255, 256, 257, 65536, 65537, math.MaxInt32, 1 << 32, 1<<32 + 1, math.MaxInt - 1, math.MaxInt}
}

// device is some blocks, which are laid by the words of the layers 16, 18 and 19.
type device struct {
	l      api.Layout
	blocks []api.Block
}

func made(l api.Layout) device {
	return device{l, make([]api.Block, l.Blocks)}
}

// view tells the view of the device, whose function panics where there is no block.
func (d device) view() view.View {
	return view.View{L: d.l, Get: func(no int) api.Block { return d.blocks[no] }}
}

// inode lays an inode's bytes, whether they may be or not.
func (d device) inode(ino int, i api.Inode) {
	b := d.blocks[2+(ino-1)/8][32*((ino-1)%8):][:32]
	b[0] = byte(i.Kind)
	binary.LittleEndian.PutUint16(b[2:], uint16(i.Links))
	binary.LittleEndian.PutUint32(b[4:], uint32(i.Size))
	binary.LittleEndian.PutUint16(b[8:], uint16(i.Parent))
	for k, no := range i.Direct {
		binary.LittleEndian.PutUint16(b[10+2*k:], uint16(no))
	}
	binary.LittleEndian.PutUint16(b[22:], uint16(i.Indirect))
}

// index lays an index of that depth that tells these.
func (d device) index(no, depth int, l ...int) {
	b := &d.blocks[no]
	*b = api.Block{0: 'i', 1: 'd', 2: 'x', 3: '!', 4: byte(depth)}
	for place, bucket := range l {
		binary.LittleEndian.PutUint16(b[32+2*place:], uint16(bucket))
	}
}

// bucket lays a bucket of these entries.
func (d device) bucket(no int, l ...api.Entry) {
	b := &d.blocks[no]
	*b = api.Block{0: 'b', 1: 'k', 2: 't', 3: '!'}
	for k, e := range l {
		binary.LittleEndian.PutUint16(b[32+32*k:], uint16(e.Ino))
		b[32+32*k+2] = byte(len(e.Name))
		copy(b[32+32*k+3:], e.Name)
	}
}

// directory lays a directory of one bucket, which stands behind its index.
func (d device) directory(ino, no int, i api.Inode, l ...api.Entry) {
	i.Kind, i.Direct[0] = 2, no
	d.inode(ino, i)
	d.index(no, 0, no+1)
	d.bucket(no+1, l...)
}

// byHand is a device of which all is told that a tree has, and some that it has not.
func byHand() device {
	d := made(api.Layout{Blocks: 32, Inodes: 16})
	d.directory(1, 4, api.Inode{Links: 5, Parent: 6, Size: 700}, api.Entry{Name: "f", Ino: 3}, api.Entry{Name: "bad", Ino: 10}, api.Entry{Name: "far", Ino: 17}, api.Entry{Name: "a", Ino: 7},
		api.Entry{Name: "a", Ino: 8}, api.Entry{Name: "gone", Ino: 9}, api.Entry{Name: "self", Ino: 1})
	d.directory(7, 6, api.Inode{Links: 1, Parent: 1}, api.Entry{Name: "up", Ino: 1}, api.Entry{Name: "f2", Ino: 3}, api.Entry{Name: "b", Ino: 2}, api.Entry{Name: "e", Ino: 16})
	d.inode(3, api.Inode{Kind: 1, Links: 2, Parent: 4, Size: 258, Direct: [6]int{8, 9}})
	d.blocks[8], d.blocks[9] = api.Block{0: 11, 255: 12}, api.Block{1: 13, 2: 14}
	d.inode(2, api.Inode{Kind: 2, Links: 7, Parent: 9})
	d.inode(16, api.Inode{Kind: 1, Links: 65535, Parent: 65535})
	// Of what follows nothing can be come to.
	d.inode(5, api.Inode{Kind: 1, Links: 1, Size: 10})
	d.directory(6, 10, api.Inode{Links: 1, Parent: 1}, api.Entry{Name: "x", Ino: 4}, api.Entry{Name: "y", Ino: 3})
	d.inode(4, api.Inode{Kind: 1, Links: 1})
	d.inode(8, api.Inode{Kind: 1, Links: 1})
	d.inode(10, api.Inode{Kind: 3, Links: 1})
	return d
}

// handTree is the tree of byHand.
func handTree() []tree.Node {
	data := make([]byte, 258)
	data[0], data[255], data[257] = 11, 12, 13
	return []tree.Node{
		{Ino: 1, Kind: 2, Links: 5, Parent: 6, Names: []api.Entry{{Name: "a", Ino: 7}, {Name: "f", Ino: 3}, {Name: "self", Ino: 1}}},
		{Ino: 2, Kind: 2, Links: 7, Parent: 9},
		{Ino: 3, Kind: 1, Links: 2, Parent: 4, Size: 258, Data: data},
		{Ino: 7, Kind: 2, Links: 1, Parent: 1, Names: []api.Entry{{Name: "b", Ino: 2}, {Name: "e", Ino: 16}, {Name: "f2", Ino: 3}, {Name: "up", Ino: 1}}},
		{Ino: 16, Kind: 1, Links: 65535, Parent: 65535},
	}
}

// plain tells the node with nil for lists of none.
func plain(n tree.Node) tree.Node {
	if len(n.Data) == 0 {
		n.Data = nil
	}
	if len(n.Names) == 0 {
		n.Names = nil
	}
	return n
}

// equal tells whether both trees are the same, without a call of the package.
func equal(a, b []tree.Node) bool {
	if len(a) != len(b) {
		return false
	}
	for k := range a {
		if !reflect.DeepEqual(plain(a[k]), plain(b[k])) {
			return false
		}
	}
	return true
}

// copied tells the tree in new memory.
func copied(t []tree.Node) []tree.Node {
	u := slices.Clone(t)
	for k := range u {
		u[k].Data, u[k].Names = slices.Clone(u[k].Data), slices.Clone(u[k].Names)
	}
	return u
}

// made by the words of the chapter: nodes are told apart, round by round, until no name tells another one.
func treeOf(v view.View) []tree.Node {
	is := func(ino int) bool { return v.Inode(ino).Kind == 1 || v.Inode(ino).Kind == 2 }
	in := map[int]bool{}
	if v.Inode(1).Kind == 2 {
		in[1] = true
	}
	for before := -1; before != len(in); {
		before = len(in)
		for ino := range 129 {
			if !in[ino] {
				continue
			}
			for _, e := range dread.List(v, v.Inode(ino)) {
				if is(e.Ino) {
					in[e.Ino] = true
				}
			}
		}
	}
	var t []tree.Node
	for ino := range 129 {
		if !in[ino] {
			continue
		}
		i := v.Inode(ino)
		n := tree.Node{Ino: ino, Kind: i.Kind, Links: i.Links, Parent: i.Parent}
		if i.Kind == 1 {
			n.Size, n.Data = fread.Size(i), fread.Read(v, i, 0, 34304)
		} else {
			for _, e := range dread.List(v, i) {
				if is(e.Ino) {
					n.Names = append(n.Names, e)
				}
			}
		}
		t = append(t, n)
	}
	return t
}

// at is made by the words of the chapter: name by name.
func at(t []tree.Node, parts []string) (int, bool) {
	n, is := first(t, 1)
	if !is {
		return 0, false
	}
	if len(parts) == 0 {
		return 1, true
	}
	ino := 1
	for _, part := range parts {
		has := false
		for _, e := range n.Names {
			if e.Name == part && !has {
				ino, has = e.Ino, true
			}
		}
		if n, is = first(t, ino); !has || ino < 0 || !is {
			return 0, false
		}
	}
	return ino, true
}

func first(t []tree.Node, ino int) (tree.Node, bool) {
	for _, n := range t {
		if n.Ino == ino {
			return n, true
		}
	}
	return tree.Node{}, false
}

// paths is made by the words of the chapter: the next directory is always the first one of which that was not come to.
func paths(t []tree.Node) []string {
	if root, is := first(t, 1); !is || root.Kind != 2 {
		return nil
	}
	gone, ways, all := []int{1}, []string{""}, map[string]bool{}
	for more := true; more; {
		more = false
		for k := 0; k < len(gone) && !more; k++ {
			dir, _ := first(t, gone[k])
			for _, e := range dir.Names {
				all[ways[k]+"/"+e.Name] = true
				if n, is := first(t, e.Ino); !more && is && n.Kind == 2 && !slices.Contains(gone, e.Ino) {
					gone, ways, more = append(gone, e.Ino), append(ways, ways[k]+"/"+e.Name), true
				}
			}
		}
	}
	var l []string
	for path := range all {
		l = append(l, path)
	}
	slices.SortFunc(l, strings.Compare)
	return l
}

// check holds the calls of one tree against the words of the chapter.
func check(t *testing.T, u []tree.Node, parts [][]string, inos ...int) {
	t.Helper()
	kept := copied(u)
	for _, ino := range inos {
		want, is := first(u, ino)
		if got, has := tree.Find(u, ino); has != is || !reflect.DeepEqual(plain(got), plain(want)) {
			t.Fatalf("of %v: Find %d: %v %v, want %v %v", u, ino, got, has, want, is)
		}
		n := 0
		for _, node := range u {
			for _, e := range node.Names {
				if e.Ino == ino {
					n++
				}
			}
		}
		if got := tree.Count(u, ino); got != n {
			t.Fatalf("of %v: Count %d: %d, want %d", u, ino, got, n)
		}
	}
	for _, l := range parts {
		want, is := at(u, l)
		if got, has := tree.At(u, l); got != want || has != is {
			t.Fatalf("of %v: At %q: %d %v, want %d %v", u, l, got, has, want, is)
		}
	}
	if got, want := tree.Paths(u), paths(u); !slices.Equal(got, want) {
		t.Fatalf("of %v: Paths %q, want %q", u, got, want)
	}
	if !tree.Same(u, kept) || !tree.Same(kept, u) || !tree.Like(u, kept) || !equal(u, kept) {
		t.Fatalf("%v is not as it was: %v", u, kept)
	}
}

// follows holds promise 25.4, of a view's tree: every node but the root is told, every name tells one, every path leads to one.
func follows(t *testing.T, u []tree.Node) {
	t.Helper()
	for k, n := range u {
		if n.Ino != 1 && tree.Count(u, n.Ino) == 0 {
			t.Fatalf("of %v: no name tells %v", u, n)
		}
		if k > 0 && u[k-1].Ino >= n.Ino {
			t.Fatalf("of %v: %v does not rise", u, n)
		}
		for _, e := range n.Names {
			if _, has := tree.Find(u, e.Ino); !has {
				t.Fatalf("of %v: %v tells no node", u, e)
			}
		}
	}
	for _, path := range tree.Paths(u) {
		ino, has := tree.At(u, strings.Split(path[1:], "/"))
		if !has || !slices.ContainsFunc(u, func(n tree.Node) bool { return n.Ino == ino }) {
			t.Fatalf("of %v: %q leads to %d %v", u, path, ino, has)
		}
	}
}

// Promises 25.1 and 25.4: by hand; what stray entries, free inodes, and bytes that are not clean would tell is not there.
func TestOfByHand(t *testing.T) {
	v := byHand().view()
	got := tree.Of(v)
	if !equal(got, handTree()) || !equal(got, treeOf(v)) {
		t.Errorf("Of: %v, want %v", got, handTree())
	}
	follows(t, got)
	check(t, got, [][]string{nil, {"a"}, {"a", "b"}, {"a", "up", "a", "e"}, {"self", "self", "f"}, {"gone"}, {"bad"}, {"far"}, {"f", "f2"}, {"a", "b", "c"}}, wild()...)
	want := []string{"/a", "/a/b", "/a/e", "/a/f2", "/a/up", "/f", "/self"}
	if got := tree.Paths(got); !slices.Equal(got, want) {
		t.Errorf("Paths: %q, want %q", got, want)
	}
}

// Promise 25.1: without a root that is a directory there is nothing, whatever else the device has.
func TestOfRoot(t *testing.T) {
	for kind := range 256 {
		d := byHand()
		d.blocks[2][0] = byte(kind)
		if got := tree.Of(d.view()); kind == 2 != (len(got) == 5) || kind != 2 && len(got) != 0 {
			t.Errorf("of a root of the kind %d: %v", kind, got)
		}
	}
	// Where a number stands that an inode can not have, its bytes are not clean.
	for _, at := range []int{1, 7, 24, 31} {
		d := byHand()
		d.blocks[2][at] = 1
		if got := tree.Of(d.view()); len(got) != 0 {
			t.Errorf("of a root whose byte %d is wrong: %v", at, got)
		}
	}
	// The root's Links and Parent are told as they are, 0 and its own number or not.
	for _, n := range []int{0, 1, 2, 255, 256, 65535} {
		d := made(api.Layout{Blocks: 16, Inodes: 8})
		d.inode(1, api.Inode{Kind: 2, Links: n, Parent: 65535 - n, Size: n % 30000})
		if got := tree.Of(d.view()); !equal(got, []tree.Node{{Ino: 1, Kind: 2, Links: n, Parent: 65535 - n}}) {
			t.Errorf("of a root of %d: %v", n, got)
		}
	}
}

// Promise 25.1: each inode that a directory's name can tell is there just if it is a file, or a directory, of the layout.
func TestOfKinds(t *testing.T) {
	for _, l := range layouts() {
		for ino := 2; ino <= 128; ino++ {
			for kind := range 4 {
				d := made(l)
				data := 2 + l.Inodes/8
				d.directory(1, data, api.Inode{Links: 1, Parent: 1}, api.Entry{Name: "n", Ino: ino})
				if ino <= l.Inodes {
					d.inode(ino, api.Inode{Kind: kind, Links: kind})
				}
				is := ino <= l.Inodes && (kind == 1 || kind == 2)
				want := []tree.Node{{Ino: 1, Kind: 2, Links: 1, Parent: 1}}
				if is {
					want[0].Names = []api.Entry{{Name: "n", Ino: ino}}
					want = append(want, tree.Node{Ino: ino, Kind: kind, Links: kind})
				}
				if got := tree.Of(d.view()); !equal(got, want) {
					t.Fatalf("of %v: %d of the kind %d: %v, want %v", l, ino, kind, got, want)
				}
			}
		}
	}
}

// low tells the low bits of a name's hash by the library.
func low(name string, bits int) int {
	h := fnv.New32a()
	h.Write([]byte(name))
	return int(h.Sum32() & (1<<bits - 1))
}

// Promise 25.1: all inodes that a device can have, in a row of directories, told from the last one to the first.
func TestOfDeep(t *testing.T) {
	d := made(api.Layout{Blocks: 512, Inodes: 128})
	var want []tree.Node
	row := append([]int{1}, slices.Collect(func(yield func(int) bool) {
		for ino := 128; ino > 1 && yield(ino); ino-- {
		}
	})...)
	for k, ino := range row {
		var l []api.Entry
		if k+1 < len(row) {
			l = []api.Entry{{Name: "n" + strconv.Itoa(k), Ino: row[k+1]}}
		}
		d.directory(ino, 18+2*k, api.Inode{Links: k, Parent: ino}, l...)
		want = append(want, tree.Node{Ino: ino, Kind: 2, Links: k, Parent: ino, Names: l})
	}
	slices.SortFunc(want, func(a, b tree.Node) int { return a.Ino - b.Ino })
	got := tree.Of(d.view())
	if !equal(got, want) || len(got) != 128 {
		t.Errorf("Of: %v, want %v", got, want)
	}
	follows(t, got)
	if l := tree.Paths(got); len(l) != 127 || strings.Count(l[126], "/") != 127 {
		t.Error("Paths:", len(l))
	}
}

// Promise 25.1: a directory of all the names that it can have, by rising names, and a file that has all that a file can have.
func TestOfFull(t *testing.T) {
	d := made(api.Layout{Blocks: 512, Inodes: 128})
	r := rand.New(rand.NewSource(25))
	var tells []int
	var all []api.Entry
	var buckets [32][]api.Entry
	for n := 0; len(all) < 32*7; n++ {
		e := api.Entry{Name: "n" + strconv.Itoa(n), Ino: 2 + n%127}
		if p := low(e.Name, 5); len(buckets[p]) < 7 {
			buckets[p], all = append(buckets[p], e), append(all, e)
		}
	}
	for p, l := range buckets {
		d.bucket(20+p, l...)
		tells = append(tells, 20+p)
	}
	slices.SortFunc(all, func(a, b api.Entry) int { return strings.Compare(a.Name, b.Name) })
	d.inode(1, api.Inode{Kind: 2, Links: 1, Parent: 1, Direct: [6]int{19}})
	d.index(19, 5, tells...)
	i := api.Inode{Kind: 1, Links: 1, Size: 34304, Direct: [6]int{100, 101, 102, 103, 104, 105}, Indirect: 106}
	for k := range 128 {
		binary.LittleEndian.PutUint16(d.blocks[106][2*k:], uint16(107+k))
	}
	var data []byte
	for k := range 135 {
		if k != 6 {
			r.Read(d.blocks[100+k][:])
			data = append(data, d.blocks[100+k][:]...)
		}
	}
	for ino := 2; ino <= 128; ino++ {
		d.inode(ino, i)
	}
	got := tree.Of(d.view())
	if len(got) != 128 || !slices.Equal(got[0].Names, all) || len(tree.Paths(got)) != 224 {
		t.Fatal("Of:", len(got), got[0])
	}
	for k, n := range got[1:] {
		if want := (tree.Node{Ino: k + 2, Kind: 1, Links: 1, Size: 34304, Data: data}); !reflect.DeepEqual(n, want) {
			t.Fatalf("the node %d has %d bytes: %d", n.Ino, len(n.Data), n.Size)
		}
	}
	follows(t, got)
}

// random tells a device of any inodes; names of directories tell any of them, and may be stray.
func random(r *rand.Rand, l api.Layout) device {
	d := made(l)
	data := 2 + l.Inodes/8
	pool := []string{"a", "b", "c", "ab", "...", "\xff", "\x01", "zz", "0"}
	// Mostly each second block is an index, and those between are buckets.
	near := func(odd int) int { return data + r.Intn((l.Blocks-data)/2)*2 + odd*min(1, r.Intn(9)) }
	for no := data; no < l.Blocks; no++ {
		if (no-data)%2 == 0 {
			d.index(no, 1, near(1), near(1))
			continue
		}
		var some []api.Entry
		for range r.Intn(8) {
			some = append(some, api.Entry{Name: pool[r.Intn(len(pool))], Ino: 1 + r.Intn(l.Inodes+2)})
		}
		d.bucket(no, some...)
	}
	for ino := 1; ino <= l.Inodes; ino++ {
		i := api.Inode{Kind: 1 + r.Intn(2), Links: r.Intn(3), Parent: r.Intn(9), Size: r.Intn(600), Direct: [6]int{near(0), r.Intn(l.Blocks)}}
		if ino == 1 {
			i.Kind = 2
		} else if r.Intn(4) == 0 {
			i = api.Inode{Kind: r.Intn(2) * 3}
		}
		d.inode(ino, i)
	}
	return d
}

// Promises 25.1 to 25.4: any devices, by the words of the chapter.
func TestOfAny(t *testing.T) {
	r := rand.New(rand.NewSource(250))
	nodes := 0
	for n := range 1000 {
		v := random(r, layouts()[n%4]).view()
		got := tree.Of(v)
		if want := treeOf(v); !equal(got, want) {
			t.Fatalf("Of: %v, want %v", got, want)
		}
		follows(t, got)
		check(t, got, [][]string{nil, {"a"}, {"a", "b"}, {"b", "a"}, {"ab", "c", "a"}, {"...", "0"}, {""}}, wild()...)
		nodes += len(got)
	}
	if nodes < 2500 {
		t.Error("too few nodes were told:", nodes)
	}
}

// Promise 25.1: of views that have no inodes there is no tree.
func TestOfNothing(t *testing.T) {
	v := byHand().view()
	views := []view.View{{}, {L: v.L}, view.On(v.L, nil), view.On(v.L, func(no int) (api.Block, api.Errno) { return v.Get(no), api.ErrDown })}
	for _, l := range others() {
		views = append(views, view.View{L: l, Get: func(no int) api.Block { return v.Get(no & 15) }})
	}
	for _, w := range views {
		if got := tree.Of(w); len(got) != 0 {
			t.Errorf("of %v: %v", w.L, got)
		}
	}
}

// Promise 25.1: over a cache what is changed in memory is told, and nothing is written.
func TestOfCache(t *testing.T) {
	hand := byHand()
	d, err := disk.From(hand.blocks)
	if err != api.OK {
		t.Fatal(err)
	}
	c := cache.New(d)
	v := view.On(hand.l, c.Get)
	c.Put(8, api.Patch{At: 0, Data: []byte{99}})
	c.Put(7, api.Patch{At: 32, Data: make([]byte, 32)})
	want := handTree()
	want[2].Data[0], want[3].Names = 99, want[3].Names[:3]
	if got := tree.Of(v); !equal(got, want) || d.Writes() != 0 {
		t.Errorf("Of: %v, want %v", got, want)
	}
}

// Promise 25.1: of nodes of one number the first one is found; names of all nodes count, whatever these are.
func TestFindAndCount(t *testing.T) {
	u := []tree.Node{
		{Ino: 3, Kind: 1, Names: []api.Entry{{Name: "x", Ino: 9}, {Name: "x", Ino: 9}, {Name: "", Ino: -1}}},
		{Ino: -1, Links: 4},
		{Ino: 3, Kind: 2, Size: 5, Names: []api.Entry{{Name: "y", Ino: 9}, {Name: "z", Ino: 3}}},
		{Ino: 0, Data: []byte{1}},
	}
	if n, has := tree.Find(u, 3); !has || !reflect.DeepEqual(n, u[0]) {
		t.Error("Find 3:", n, has)
	}
	if n, has := tree.Find(u, -1); !has || !reflect.DeepEqual(n, u[1]) {
		t.Error("Find -1:", n, has)
	}
	if n, has := tree.Find(u, 0); !has || !reflect.DeepEqual(n, u[3]) {
		t.Error("Find 0:", n, has)
	}
	if n, has := tree.Find(u, 9); has || !reflect.DeepEqual(n, tree.Node{}) {
		t.Error("Find 9:", n, has)
	}
	for ino, want := range map[int]int{9: 3, -1: 1, 3: 1, 0: 0, 7: 0, math.MinInt: 0} {
		if got := tree.Count(u, ino); got != want {
			t.Errorf("Count %d: %d, want %d", ino, got, want)
		}
	}
	check(t, u, nil, wild()...)
	check(t, nil, [][]string{nil, {"a"}}, wild()...)
}

// Promise 25.2: by hand, of a tree whose names tell what they like.
func TestAt(t *testing.T) {
	u := []tree.Node{
		{Ino: 1, Kind: 2, Names: []api.Entry{{Name: "a", Ino: 2}, {Name: "a", Ino: 3}, {Name: "gone", Ino: 9}, {Name: "low", Ino: -1}, {Name: "nought", Ino: 0}, {Name: "twice", Ino: -1}, {Name: "twice", Ino: 2}, {Name: "", Ino: 3}, {Name: "u/v", Ino: 1}}},
		{Ino: 2, Kind: 1, Names: []api.Entry{{Name: "b", Ino: 3}, {Name: "back", Ino: 1}}},
		{Ino: 3, Kind: 2},
		{Ino: -1, Kind: 2, Names: []api.Entry{{Name: "b", Ino: 3}}},
		{Ino: 0, Kind: 2, Names: []api.Entry{{Name: "b", Ino: 3}}},
		{Ino: 1, Kind: 2, Names: []api.Entry{{Name: "second", Ino: 3}}},
	}
	for _, c := range []struct {
		parts []string
		ino   int
		has   bool
	}{
		{nil, 1, true}, {[]string{}, 1, true}, {[]string{"a"}, 2, true}, {[]string{"a", "b"}, 3, true}, {[]string{"a", "back", "a", "back"}, 1, true}, {[]string{""}, 3, true}, {[]string{"u/v", ""}, 3, true},
		{[]string{"nought"}, 0, true}, {[]string{"nought", "b"}, 3, true}, {[]string{"gone"}, 0, false}, {[]string{"gone", "b"}, 0, false}, {[]string{"low"}, 0, false}, {[]string{"low", "b"}, 0, false},
		{[]string{"twice"}, 0, false}, {[]string{"second"}, 0, false}, {[]string{"b"}, 0, false}, {[]string{"a", "c"}, 0, false}, {[]string{"", "b"}, 0, false}, {[]string{"a", "c", "back"}, 0, false}, {[]string{"u", "v"}, 0, false}, {[]string{"/a"}, 0, false}, {[]string{"A"}, 0, false},
	} {
		if got, has := tree.At(u, c.parts); got != c.ino || has != c.has {
			t.Errorf("At %q: %d %v, want %d %v", c.parts, got, has, c.ino, c.has)
		}
	}
	for _, none := range [][]tree.Node{nil, {}, {{Ino: 2, Kind: 2, Names: []api.Entry{{Name: "a", Ino: 2}}}}, {{}}} {
		for _, parts := range [][]string{nil, {"a"}, {"a", "a"}} {
			if got, has := tree.At(none, parts); got != 0 || has {
				t.Errorf("of %v: At %q: %d %v", none, parts, got, has)
			}
		}
	}
}

// Promise 25.3: each field makes two trees others; Links and Parent alone leave them alike; the order counts.
func TestSameAndLike(t *testing.T) {
	u := handTree()
	for k := range u {
		for n, change := range []func(n *tree.Node){
			func(n *tree.Node) { n.Links++ },
			func(n *tree.Node) { n.Parent-- },
			func(n *tree.Node) { n.Links, n.Parent = -1, -2 },
			func(n *tree.Node) { n.Ino++ },
			func(n *tree.Node) { n.Kind++ },
			func(n *tree.Node) { n.Size-- },
			func(n *tree.Node) { n.Data = append(n.Data, 0) },
			func(n *tree.Node) { n.Names = append(n.Names, api.Entry{}) },
		} {
			w := copied(u)
			change(&w[k])
			if tree.Same(u, w) || tree.Same(w, u) || tree.Like(u, w) != (n < 3) || tree.Like(w, u) != (n < 3) {
				t.Errorf("the node %d, changed by %d: %v %v", k, n, tree.Same(u, w), tree.Like(u, w))
			}
		}
	}
	for n, change := range []func(w []tree.Node){
		func(w []tree.Node) { w[2].Data[257]++ },
		func(w []tree.Node) { w[2].Data = w[2].Data[:257] },
		func(w []tree.Node) { w[2].Data = nil },
		func(w []tree.Node) { w[3].Names[3].Ino++ },
		func(w []tree.Node) { w[3].Names[0].Name += "b" },
		func(w []tree.Node) { w[3].Names[0], w[3].Names[1] = w[3].Names[1], w[3].Names[0] },
		func(w []tree.Node) { w[3].Names = w[3].Names[:3] },
		func(w []tree.Node) { w[0], w[1] = w[1], w[0] },
		func(w []tree.Node) { w[4] = w[3] },
	} {
		w := copied(u)
		change(w)
		if tree.Same(u, w) || tree.Same(w, u) || tree.Like(u, w) || tree.Like(w, u) {
			t.Errorf("changed by %d they are the same", n)
		}
	}
	for k := range u {
		if tree.Same(u, u[:k]) || tree.Like(u, u[:k]) || tree.Same(u[:k], u) || tree.Like(u[:k], u) {
			t.Errorf("the first %d are the same as all", k)
		}
	}
}

// Rule R3: lists of none, nil or empty, are the same.
func TestSameOfNone(t *testing.T) {
	if !tree.Same(nil, []tree.Node{}) || !tree.Like([]tree.Node{}, nil) || tree.Same(nil, []tree.Node{{}}) || tree.Like([]tree.Node{{}}, nil) {
		t.Error("trees without nodes")
	}
	a, b := []tree.Node{{Ino: 1, Data: []byte{}}}, []tree.Node{{Ino: 1, Names: []api.Entry{}}}
	if !tree.Same(a, b) || !tree.Like(b, a) {
		t.Error("nodes without bytes and names")
	}
}

// Promise 25.3: by hand; a directory that several names tell is gone through by the first of them, one behind the other.
func TestPaths(t *testing.T) {
	u := []tree.Node{
		{Ino: 1, Kind: 2, Names: []api.Entry{{Name: "z", Ino: 2}, {Name: "b", Ino: 3}, {Name: "b", Ino: 4}, {Name: "f", Ino: 5}, {Name: "gone", Ino: 99}, {Name: "me", Ino: 1}, {Name: "f", Ino: 5}}},
		{Ino: 2, Kind: 2, Names: []api.Entry{{Name: "d", Ino: 6}, {Name: "again", Ino: 3}, {Name: "low", Ino: -7}}},
		{Ino: 3, Kind: 2, Names: []api.Entry{{Name: "n", Ino: 7}, {Name: "e", Ino: 8}, {Name: "d", Ino: 6}}},
		{Ino: 4, Kind: 2, Names: []api.Entry{{Name: "n", Ino: 5}, {Name: "m", Ino: 1}}},
		{Ino: 5, Kind: 1, Names: []api.Entry{{Name: "of a file", Ino: 2}}},
		{Ino: 6, Kind: 2, Names: []api.Entry{{Name: "deep", Ino: 8}}},
		{Ino: 6, Kind: 2, Names: []api.Entry{{Name: "second", Ino: 8}}},
		{Ino: 7, Kind: 3, Names: []api.Entry{{Name: "of another kind", Ino: 2}}},
		{Ino: 8, Kind: 2, Names: []api.Entry{{Name: "end", Ino: 8}}},
		{Ino: 9, Kind: 2, Names: []api.Entry{{Name: "alone", Ino: 8}}},
		{Ino: -7, Kind: 2, Names: []api.Entry{{Name: "", Ino: 0}, {Name: "/", Ino: 0}}},
	}
	want := []string{"/b", "/b/d", "/b/e", "/b/e/end", "/b/m", "/b/n", "/f", "/gone", "/me", "/z", "/z/again", "/z/d", "/z/d/deep", "/z/low", "/z/low/", "/z/low//"}
	if got := tree.Paths(u); !slices.Equal(got, want) {
		t.Errorf("Paths: %q, want %q", got, want)
	}
	check(t, u, [][]string{{"z", "d", "deep"}, {"b", "n"}, {"z", "low"}}, wild()...)
}

// Promise 25.3: one behind the other: what two directories tell is come to by the one that is nearer to the root.
func TestPathsInOrder(t *testing.T) {
	u := []tree.Node{
		{Ino: 1, Kind: 2, Names: []api.Entry{{Name: "a", Ino: 2}, {Name: "b", Ino: 3}}},
		{Ino: 2, Kind: 2, Names: []api.Entry{{Name: "c", Ino: 4}}},
		{Ino: 3, Kind: 2, Names: []api.Entry{{Name: "d", Ino: 5}}},
		{Ino: 4, Kind: 2, Names: []api.Entry{{Name: "e", Ino: 5}}},
		{Ino: 5, Kind: 2, Names: []api.Entry{{Name: "x", Ino: 6}}},
	}
	if got, want := tree.Paths(u), []string{"/a", "/a/c", "/a/c/e", "/b", "/b/d", "/b/d/x"}; !slices.Equal(got, want) {
		t.Errorf("Paths: %q, want %q", got, want)
	}
}

// Promise 25.3: paths rise byte by byte as wholes, not name by name.
func TestPathsRise(t *testing.T) {
	u := []tree.Node{
		{Ino: 1, Kind: 2, Names: []api.Entry{{Name: "a", Ino: 2}, {Name: "a-", Ino: 3}, {Name: "a0", Ino: 3}, {Name: "\xff", Ino: 3}, {Name: "\xc3\xa4", Ino: 3}, {Name: "B", Ino: 3}}},
		{Ino: 2, Kind: 2, Names: []api.Entry{{Name: "b", Ino: 3}}},
	}
	if got, want := tree.Paths(u), []string{"/B", "/a", "/a-", "/a/b", "/a0", "/\xc3\xa4", "/\xff"}; !slices.Equal(got, want) {
		t.Errorf("Paths: %q, want %q", got, want)
	}
	for _, none := range [][]tree.Node{nil, {}, {{Ino: 1, Kind: 2}}, {{Ino: 2, Kind: 2, Names: []api.Entry{{Name: "a", Ino: 2}}}}} {
		if got := tree.Paths(none); len(got) != 0 {
			t.Errorf("Paths of %v: %q", none, got)
		}
	}
}

// Promise 25.3: of a root that is no directory, by the first node of its number, nothing is gone through.
func TestPathsOfARoot(t *testing.T) {
	for _, kind := range append(wild(), 2, 3) {
		u := []tree.Node{
			{Ino: 1, Kind: kind, Names: []api.Entry{{Name: "a", Ino: 2}}},
			{Ino: 2, Kind: 2, Names: []api.Entry{{Name: "b", Ino: 1}}},
			{Ino: 1, Kind: 4 - kind, Names: []api.Entry{{Name: "c", Ino: 2}}},
			{Ino: 1, Kind: 2, Names: []api.Entry{{Name: "d", Ino: 2}}},
		}
		var want []string
		if kind == 2 {
			want = []string{"/a", "/a/b"}
		}
		if got := tree.Paths(u); !slices.Equal(got, want) {
			t.Errorf("Paths of a root of the kind %d: %q, want %q", kind, got, want)
		}
		check(t, u, [][]string{nil, {"a"}, {"a", "b"}, {"c"}}, wild()...)
	}
}

// Promises 25.1 to 25.3: any lists of nodes, by the words of the chapter.
func TestAnyNodes(t *testing.T) {
	r := rand.New(rand.NewSource(2500))
	pool := []string{"a", "b", "", "a/b", "/", "\xff"}
	var parts [][]string
	for range 40 {
		var l []string
		for range r.Intn(5) {
			l = append(l, pool[r.Intn(len(pool))])
		}
		parts = append(parts, l)
	}
	for range 20000 {
		var u []tree.Node
		for n := range r.Intn(9) {
			node := tree.Node{Ino: r.Intn(9) - 2, Kind: []int{2, 2, 2, 1, 3, 0, -2}[r.Intn(7)], Links: r.Intn(2), Parent: r.Intn(2), Size: r.Intn(2)}
			if n == 0 {
				node.Ino, node.Kind = min(1, r.Intn(4)), 2-r.Intn(8)/7
			}
			for range r.Intn(5) {
				node.Names = append(node.Names, api.Entry{Name: pool[r.Intn(len(pool))], Ino: r.Intn(9) - 2})
			}
			u = append(u, node)
		}
		check(t, u, parts, wild()...)
	}
}

// Rule R4: each answer is new memory.
func TestNewMemory(t *testing.T) {
	v := byHand().view()
	got, again := tree.Of(v), tree.Of(v)
	clear(got[2].Data)
	clear(got[0].Names)
	clear(got)
	if !equal(again, handTree()) {
		t.Error("Of:", again)
	}
	for k := range again {
		n, _ := tree.Find(again, again[k].Ino)
		clear(n.Data)
		clear(n.Names)
		_ = append(n.Data[:0], 7)
	}
	if !equal(again, handTree()) {
		t.Error("Find:", again)
	}
	l, more := tree.Paths(again), tree.Paths(again)
	clear(l)
	if !slices.Equal(more, paths(handTree())) {
		t.Error("Paths:", more)
	}
}

// The chapter's example: of a device just formatted the root alone, without names.
func TestExample(t *testing.T) {
	for _, l := range layouts() {
		d := made(l)
		d.inode(1, api.Inode{Kind: 2, Links: 1, Parent: 1})
		got := tree.Of(d.view())
		if !equal(got, []tree.Node{{Ino: 1, Kind: 2, Links: 1, Parent: 1}}) || len(tree.Paths(got)) != 0 {
			t.Errorf("of %v: %v", l, got)
		}
		if ino, has := tree.At(got, nil); ino != 1 || !has {
			t.Errorf("of %v: At: %d %v", l, ino, has)
		}
	}
}

// P1: every call ends and none panics, at any arguments.
func TestAnyArguments(t *testing.T) {
	r := rand.New(rand.NewSource(25000))
	for _, l := range slices.Concat(layouts(), others()) {
		for range 20 {
			var bytes [16]api.Block
			for k := range bytes {
				r.Read(bytes[k][:])
				bytes[k][0] = byte(k % 4)
			}
			for _, v := range []view.View{{L: l}, view.On(l, nil), view.On(l, func(no int) (api.Block, api.Errno) { return bytes[no%16], api.Errno(no % 2) })} {
				check(t, tree.Of(v), [][]string{nil, {""}, {"a", "\x00"}}, wild()...)
			}
		}
	}
	var u []tree.Node
	for _, ino := range wild() {
		u = append(u, tree.Node{Ino: ino, Kind: 2, Links: ino, Parent: ino, Size: ino, Names: []api.Entry{{Name: strings.Repeat("long", 99), Ino: ino}, {Name: "-", Ino: -ino}, {Name: "+", Ino: ino + 1}}})
	}
	check(t, u, [][]string{nil, {"-"}, {"+", "+", "+", "-"}, {"-", "-"}, slices.Repeat([]string{"+"}, 100)}, wild()...)
}

// P1: a row of many nodes ends.
func TestLong(t *testing.T) {
	var u []tree.Node
	for n := range 5000 {
		u = append(u, tree.Node{Ino: n + 1, Kind: 2, Names: []api.Entry{{Name: "", Ino: n + 2}, {Name: "", Ino: n + 2}}})
	}
	if l := tree.Paths(u); len(l) != 5000 || len(l[4999]) != 5000 {
		t.Error("Paths:", len(l))
	}
	if ino, has := tree.At(u, make([]string, 4999)); ino != 5000 || !has {
		t.Error("At:", ino, has)
	}
	if _, has := tree.At(u, make([]string, 5000)); has {
		t.Error("At: past the last one")
	}
}
