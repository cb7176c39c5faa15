package names

import (
	"iter"

	"gesso/api"
	"gesso/heap"
)

const (
	empty   = 0  // what a slot holds that has no text: nil
	nowhere = -1 // the seat of a text that has none
)

// table is one that stands on a heap, and the view of that heap.
type table struct {
	heap.View
	seats []int // what its slots hold
}

// seating answers the table that o is the reference of.
func seating(h api.Heap, o int) (table, api.Errno) {
	v, f := heap.See(h)
	if f.Code != api.OK {
		return table{}, api.ErrHeap
	}
	t := table{View: v, seats: v.Look(o).Slots}
	if !t.isTable(o) {
		return table{}, api.ErrKind
	}
	return t, api.OK
}

// searched answers the table that o is the reference of, and where the search
// for text in it ends.
func searched(h api.Heap, o int, text string) (table, int, api.Errno) {
	t, e := seating(h, o)
	switch {
	case e != api.OK:
		return table{}, nowhere, e
	case len(text) > api.MaxSize:
		return table{}, nowhere, api.ErrSize
	}
	return t, t.search(text), api.OK
}

// isTable tells whether the thing that o is the reference of is a table, its
// slots being the seats.
func (t table) isTable(o int) bool {
	if !t.Has(o) || t.Look(o).Form != api.Plain {
		return false
	}
	for _, seat := range t.seats {
		if seat != empty && !t.hasText(seat) {
			return false
		}
	}
	return len(t.seats) > 0
}

// hasText tells whether o is the reference of a thing of bytes.
func (t table) hasText(o int) bool { return t.Has(o) && t.Look(o).Form == api.Bytes }

// search answers the first slot, from the seat of text on, that is empty or
// has that text; nowhere if no slot is so.
func (t table) search(text string) int {
	for at, seat := range t.from(text) {
		if seat == empty || heap.Text(t.Look(seat)) == text {
			return at
		}
	}
	return nowhere
}

// from goes through all slots once, from the seat of text on and round, and
// what they hold.
func (t table) from(text string) iter.Seq2[int, int] {
	return func(yield func(at, seat int) bool) {
		first := sum(text)
		for i := range t.seats {
			at := (first + i) % len(t.seats)
			if !yield(at, t.seats[at]) {
				return
			}
		}
	}
}

// sum answers the sum of the bytes of text.
func sum(text string) int {
	total := 0
	for i := range len(text) {
		total += int(text[i])
	}
	return total
}

// texts answers the texts of all slots that are not empty, in order.
func (t table) texts() []string {
	var all []string
	for _, seat := range t.seats {
		if seat != empty {
			all = append(all, heap.Text(t.Look(seat)))
		}
	}
	return all
}
