// Package num writes numbers as bytes, the least part ahead, and other bytes, into lists and blocks, and reads them.
package num

import (
	"escheat/api"
)

const (
	listWidth  = 8 // bytes of the widest number of a list
	blockWidth = 4 // bytes of the widest number of a block: none is past what an int can have
)

// Get tells the number that the width bytes of b from at on are.
func Get(b []byte, at, width int) (uint64, bool) {
	if !fits(len(b), at, width, listWidth) {
		return 0, false
	}
	return read(b[at : at+width]), true
}

// Put tells b, as a new list, with the lowest width bytes of v from at on.
func Put(b []byte, at, width int, v uint64) ([]byte, bool) {
	if !fits(len(b), at, width, listWidth) {
		return nil, false
	}
	list := make([]byte, len(b))
	copy(list, b)
	write(list[at:at+width], v)
	return list, true
}

// At tells the number that the width bytes of the block from at on are, 0 if there is none.
func At(b api.Block, at, width int) int {
	if !fits(len(b), at, width, blockWidth) {
		return 0
	}
	return int(read(b[at : at+width]))
}

// With tells the block with the lowest width bytes of v from at on, or as it is, if there is no such number.
func With(b api.Block, at, width, v int) api.Block {
	if fits(len(b), at, width, blockWidth) {
		write(b[at:at+width], uint64(v))
	}
	return b
}

// Cut tells those of the n bytes of the block from at on that are there.
func Cut(b api.Block, at, n int) []byte {
	if !isPlace(at) || n < 1 {
		return nil
	}
	data := make([]byte, min(n, len(b)-at))
	copy(data, b[at:])
	return data
}

// Lay tells the block with the bytes of data from at on, as far as it goes.
func Lay(b api.Block, at int, data []byte) api.Block {
	if isPlace(at) {
		copy(b[at:], data)
	}
	return b
}

// Of tells a block that begins with data, and else is noughts.
func Of(data []byte) api.Block {
	return Lay(api.Block{}, 0, data)
}

// fits tells whether a number of that width, most at most, stands whole in a list of that length.
// Nothing is added to at, which may be the greatest number that there is.
func fits(length, at, width, most int) bool {
	return width >= 1 && width <= most && at >= 0 && at <= length-width
}

func isPlace(at int) bool {
	return at >= 0 && at < api.BlockSize
}

func read(b []byte) uint64 {
	v := uint64(0)
	for k := range len(b) {
		v |= uint64(b[k]) << (8 * k)
	}
	return v
}

func write(b []byte, v uint64) {
	for k := range len(b) {
		b[k] = byte(v >> (8 * k))
	}
}
