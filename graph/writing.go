package graph

import (
	"escheat/api"
	"escheat/ready"
)

// writing is a list of changes whose blocks are written one behind the other.
// It does what roll.Write does, but goes through what the block makes ready alone, and not through the whole list at each block.
type writing struct {
	l      []api.Change
	done   []bool
	open   []int         // for how many a change waits that are not done
	behind [][]int       // which changes wait for it
	next   map[int][]int // of each block those that are not done, and wait for none that is not
}

// begin tells the writing of a list that may be, of which nothing is done.
func begin(l []api.Change) *writing {
	w := &writing{
		l:      l,
		done:   make([]bool, len(l)),
		open:   make([]int, len(l)),
		behind: make([][]int, len(l)),
		next:   map[int][]int{},
	}
	for at, row := range waits(l) {
		w.open[at] = len(row)
		for _, ahead := range row {
			w.behind[ahead] = append(w.behind[ahead], at)
		}
		w.ask(at)
	}
	return w
}

// ask puts the change at this place to the next ones of its block, if it waits for none that is not done.
func (w *writing) ask(at int) {
	if w.open[at] == 0 {
		block := w.l[at].Block
		w.next[block] = append(w.next[block], at)
	}
}

// write does all changes of the block that are ready, those too that become it by others of the block.
func (w *writing) write(block int) {
	for len(w.next[block]) > 0 {
		now := w.next[block]
		w.next[block] = nil
		for _, at := range now {
			w.done[at] = true
			for _, behind := range w.behind[at] {
				w.open[behind]--
				w.ask(behind)
			}
		}
	}
}

// left tells the changes that are not done, in order, as new memory.
func (w *writing) left() []api.Change {
	var done []int
	for at, is := range w.done {
		if is {
			done = append(done, w.l[at].ID)
		}
	}
	return ready.Without(w.l, done)
}
