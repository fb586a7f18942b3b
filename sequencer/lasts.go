package sequencer

import (
	"maps"
	"slices"

	"rotulet/api"
	"rotulet/cell"
)

// Entry is a cell at an address.
type Entry struct {
	Address uint64
	Cell    api.Cell
}

// Push are addresses with one more in front.
func Push(l [api.Backs]uint64, a uint64) [api.Backs]uint64 {
	pushed := [api.Backs]uint64{a}
	copy(pushed[1:], l[:])
	return pushed
}

// Gather are the streams' last addresses.
func Gather(l []Entry) []api.Back {
	at := map[uint64][]int{} // the streams of the cells at each address
	for _, x := range l {
		if x.Address < api.MaxAddress && x.Cell.Kind == api.Data {
			at[x.Address] = append(at[x.Address], streamsOf(x.Cell)...)
		}
	}
	last := lastsOf(nil)
	for _, a := range slices.Sorted(maps.Keys(at)) {
		// An address that comes several times is a stream's only once.
		slices.Sort(at[a])
		last.push(slices.Compact(at[a]), a)
	}
	return last.backs(last.known())
}

// streamsOf are those of a cell's streams that there are; a cell that is not valid may name others.
func streamsOf(c api.Cell) []int {
	var streams []int
	for _, b := range c.Backs {
		if isStream(b.Stream) {
			streams = append(streams, b.Stream)
		}
	}
	return streams
}

// isStream tells whether there is such a stream.
func isStream(n int) bool { return n >= 0 && n < api.MaxStream }

// lasts are the last addresses of each stream, the greatest first.
type lasts [api.MaxStream][api.Backs]uint64

// lastsOf are those that Backs tell, and None for all other streams.
func lastsOf(backs []api.Back) lasts {
	var l lasts
	for n := range l {
		l[n], _ = cell.Find(api.Cell{Backs: backs}, n)
	}
	return l
}

// push makes an address the last one of streams.
func (l *lasts) push(streams []int, a uint64) {
	for _, n := range streams {
		l[n] = Push(l[n], a)
	}
}

// backs are the Backs of streams.
func (l *lasts) backs(streams []int) []api.Back {
	var backs []api.Back
	for _, n := range streams {
		backs = append(backs, api.Back{Stream: n, Last: l[n]})
	}
	return backs
}

// known are the streams that have a last address, in order.
func (l *lasts) known() []int {
	var streams []int
	for n, last := range l {
		if last[0] != api.None {
			streams = append(streams, n)
		}
	}
	return streams
}
