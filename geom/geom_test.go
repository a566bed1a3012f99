package geom_test

import (
	"math"
	"slices"
	"testing"

	"escheat/api"
	"escheat/geom"
	"escheat/super"
)

// area is what a block is, of a layout written down block by block.
type area struct {
	kind byte // s, m, i, d
	from int  // the first inode of an i
}

// areas tells each block's area by going through the device from its front on.
func areas(l api.Layout) []area {
	out := []area{{kind: 's'}, {kind: 'm'}}
	for ino := 1; ino <= l.Inodes; ino += 8 {
		out = append(out, area{kind: 'i', from: ino})
	}
	for len(out) < l.Blocks {
		out = append(out, area{kind: 'd'})
	}
	return out
}

// layouts are all pairs of counts that may be.
func layouts() []api.Layout {
	var out []api.Layout
	for inodes := 8; inodes <= 128; inodes += 8 {
		for blocks := max(16, 3+inodes/8); blocks <= 512; blocks++ {
			out = append(out, api.Layout{Blocks: blocks, Inodes: inodes, Merge: uint64(blocks) << 40})
		}
	}
	return out
}

func few() []api.Layout {
	return []api.Layout{{Blocks: 16, Inodes: 8}, {Blocks: 16, Inodes: 16}, {Blocks: 16, Inodes: 104}, {Blocks: 17, Inodes: 112}, {Blocks: 19, Inodes: 128}, {Blocks: 512, Inodes: 8}, {Blocks: 512, Inodes: 128, Merge: math.MaxUint64}, {Blocks: 100, Inodes: 24}}
}

// others may not be.
func others() []api.Layout {
	return []api.Layout{{}, {Blocks: 15, Inodes: 8}, {Blocks: 513, Inodes: 8}, {Blocks: 16, Inodes: 0}, {Blocks: 16, Inodes: 7}, {Blocks: 16, Inodes: 9}, {Blocks: 16, Inodes: 112}, {Blocks: 18, Inodes: 128}, {Blocks: 512, Inodes: 136},
		{Blocks: -16, Inodes: 8}, {Blocks: 16, Inodes: -8}, {Blocks: math.MaxInt, Inodes: math.MaxInt - 7}, {Blocks: math.MinInt, Inodes: math.MinInt}, {Blocks: 65536 + 16, Inodes: 8}, {Blocks: 16, Inodes: 65536 + 8}}
}

func wild() []int {
	return []int{math.MinInt, math.MinInt + 1, -65536, -9, -8, -1, 0, 1, 2, 3, 4, 7, 8, 9, 15, 16, 17, 18, 19, 100, 103, 104, 105, 127, 128, 129, 511, 512, 513, 65536, 65537, 1 << 32, 1<<32 + 1, 1<<32 + 3, 1 << 62, math.MaxInt - 7, math.MaxInt - 1, math.MaxInt}
}

// Promise 15.1: the areas' edges, of each layout that may be.
func TestAreas(t *testing.T) {
	if geom.Map() != 1 {
		t.Errorf("Map: %d", geom.Map())
	}
	for _, l := range layouts() {
		all := areas(l)
		first := slices.IndexFunc(all, func(a area) bool { return a.kind == 'i' })
		data := slices.IndexFunc(all, func(a area) bool { return a.kind == 'd' })
		if from, n := geom.Table(l); from != first || n != data-first {
			t.Fatalf("Table of %v: %d %d, want %d %d", l, from, n, first, data-first)
		}
		if geom.Data(l) != data || geom.Many(l) != len(all)-data {
			t.Fatalf("Data, Many of %v: %d %d, want %d %d", l, geom.Data(l), geom.Many(l), data, len(all)-data)
		}
		var own []int
		for no, a := range all {
			if a.kind != 'd' {
				own = append(own, no)
			}
		}
		if got := geom.Own(l); !slices.Equal(got, own) {
			t.Fatalf("Own of %v: %v, want %v", l, got, own)
		}
	}
}

// Promise 15.1 and the chapter's example: by hand.
func TestByHand(t *testing.T) {
	for _, k := range []struct {
		l           api.Layout
		table, data int
		many        int
		own         []int
	}{
		{api.Layout{Blocks: 16, Inodes: 16}, 2, 4, 12, []int{0, 1, 2, 3}},
		{api.Layout{Blocks: 16, Inodes: 8}, 1, 3, 13, []int{0, 1, 2}},
		{api.Layout{Blocks: 16, Inodes: 104}, 13, 15, 1, []int{0, 1, 2, 3, 4, 5, 6, 7, 8, 9, 10, 11, 12, 13, 14}},
		{api.Layout{Blocks: 512, Inodes: 32}, 4, 6, 506, []int{0, 1, 2, 3, 4, 5}},
	} {
		if first, n := geom.Table(k.l); first != 2 || n != k.table {
			t.Errorf("Table of %v: %d %d", k.l, first, n)
		}
		if geom.Data(k.l) != k.data || geom.Many(k.l) != k.many || !slices.Equal(geom.Own(k.l), k.own) {
			t.Errorf("of %v: Data %d, Many %d, Own %v", k.l, geom.Data(k.l), geom.Many(k.l), geom.Own(k.l))
		}
	}
	l := api.Layout{Blocks: 16, Inodes: 16}
	for _, k := range [][3]int{{1, 2, 0}, {8, 2, 7}, {9, 3, 0}, {16, 3, 7}} {
		if block, at, is := geom.Where(l, k[0]); block != k[1] || at != k[2] || !is {
			t.Errorf("Where of %d: %d %d %v", k[0], block, at, is)
		}
		if ino, is := geom.Inode(l, k[1], k[2]); ino != k[0] || !is {
			t.Errorf("Inode of %d %d: %d %v", k[1], k[2], ino, is)
		}
	}
}

// Promises 15.1 and 15.2: of a layout that may not be nothing is told.
func TestOthers(t *testing.T) {
	for _, l := range others() {
		if super.Check(l) == api.OK {
			t.Fatalf("%v may be", l)
		}
		if from, n := geom.Table(l); from != 0 || n != 0 {
			t.Errorf("Table of %v: %d %d", l, from, n)
		}
		if geom.Data(l) != 0 || geom.Many(l) != 0 || len(geom.Own(l)) != 0 {
			t.Errorf("of %v: Data %d, Many %d, Own %v", l, geom.Data(l), geom.Many(l), geom.Own(l))
		}
		for _, n := range wild() {
			if block, k, is := geom.Where(l, n); block != 0 || k != 0 || is || geom.IsData(l, n) || geom.IsInode(l, n) {
				t.Errorf("%v tells something of %d", l, n)
			}
			for k := -1; k < 9; k++ {
				if ino, is := geom.Inode(l, n, k); ino != 0 || is {
					t.Errorf("Inode of %v, %d, %d: %d %v", l, n, k, ino, is)
				}
			}
		}
	}
}

// Promises 15.2 and 15.3: each inode has one place and is found there again; each block is of one area.
func TestInodesAndBlocks(t *testing.T) {
	for _, l := range layouts() {
		ino := 0
		for no, a := range areas(l) {
			if geom.IsData(l, no) != (a.kind == 'd') {
				t.Fatalf("IsData of %v, %d: %v", l, no, geom.IsData(l, no))
			}
			for k := range 8 {
				got, is := geom.Inode(l, no, k)
				if a.kind != 'i' {
					if got != 0 || is {
						t.Fatalf("Inode of %v, %d, %d: %d %v", l, no, k, got, is)
					}
					continue
				}
				ino++
				if got != ino || !is || ino != a.from+k || !geom.IsInode(l, ino) {
					t.Fatalf("Inode of %v, %d, %d: %d %v, want %d", l, no, k, got, is, ino)
				}
				if block, place, is := geom.Where(l, ino); block != no || place != k || !is {
					t.Fatalf("Where of %v, %d: %d %d %v, want %d %d", l, ino, block, place, is, no, k)
				}
			}
		}
		if ino != l.Inodes {
			t.Fatalf("%v has %d inodes", l, ino)
		}
	}
}

// Promise 15.2: numbers at and past the edges.
func TestPastTheEdges(t *testing.T) {
	for _, l := range few() {
		all := areas(l)
		for _, n := range wild() {
			isInode := n >= 1 && n <= l.Inodes
			if geom.IsInode(l, n) != isInode {
				t.Errorf("IsInode of %v, %d: %v", l, n, !isInode)
			}
			if block, k, is := geom.Where(l, n); is != isInode || !is && (block != 0 || k != 0) {
				t.Errorf("Where of %v, %d: %d %d %v", l, n, block, k, is)
			}
			isData := n >= 0 && n < len(all) && all[n].kind == 'd'
			if geom.IsData(l, n) != isData {
				t.Errorf("IsData of %v, %d: %v", l, n, !isData)
			}
			for _, k := range wild() {
				isPlace := n >= 0 && n < len(all) && all[n].kind == 'i' && k >= 0 && k < 8
				if ino, is := geom.Inode(l, n, k); is != isPlace || !is && ino != 0 || is && ino != all[n].from+k {
					t.Errorf("Inode of %v, %d, %d: %d %v", l, n, k, ino, is)
				}
			}
		}
	}
}

// Rule R4: an answer shares nothing with another one.
func TestOwnIsNew(t *testing.T) {
	l := few()[1]
	one := geom.Own(l)
	one[0] = 99
	if two := geom.Own(l); two[0] != 0 {
		t.Errorf("Own: %v", two)
	}
}

// Promise P1: every call ends and none panics, and answers the same again.
func TestAnyArguments(t *testing.T) {
	for _, blocks := range wild() {
		for _, inodes := range wild() {
			l := api.Layout{Blocks: blocks, Inodes: inodes}
			may := super.Check(l) == api.OK
			if n := geom.Many(l); (n > 0) != may || n < 0 {
				t.Fatalf("Many of %v: %d", l, n)
			}
			if first, n := geom.Table(l); geom.Data(l) != first+n || len(geom.Own(l)) != geom.Data(l) {
				t.Fatalf("Data of %v: %d", l, geom.Data(l))
			}
			for _, n := range wild() {
				geom.Where(l, n)
				geom.IsData(l, n)
				geom.IsInode(l, n)
				for _, k := range wild() {
					geom.Inode(l, n, k)
				}
			}
		}
	}
}
