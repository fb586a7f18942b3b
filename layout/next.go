package layout

import (
	"slices"

	"rotulet/api"
)

// Next is the following layout, in which fresh units take the place of those to be dropped.
func Next(l api.Layout, drop, fresh []int, sequencer int) (api.Layout, api.Errno) {
	if !Right(l) {
		return api.Layout{}, api.ErrLayout
	}
	r := repair{drop: drop, fresh: fresh, done: map[key][]int{}}
	next := api.Layout{Epoch: l.Epoch + 1, Sequencer: sequencer}
	for _, s := range l.Segments {
		chains, e := r.chains(s.Chains)
		if e != api.OK {
			return api.Layout{}, e
		}
		next.Segments = append(next.Segments, api.Segment{From: s.From, Chains: chains})
	}
	return checked(next)
}

// Extend is the following layout, in which the addresses from one on lie on other chains.
func Extend(l api.Layout, from uint64, chains [][]int) (api.Layout, api.Errno) {
	if !Right(l) {
		return api.Layout{}, api.ErrLayout
	}
	next := api.Layout{Epoch: l.Epoch + 1, Sequencer: l.Sequencer}
	for _, s := range l.Segments {
		if s.From < from {
			next.Segments = append(next.Segments, s)
		}
	}
	next.Segments = append(next.Segments, api.Segment{From: from, Chains: chains})
	return checked(next)
}

// key is a chain as an array, which a map can hold: one more than each of its units, and 0 behind them.
type key [api.MaxChain]int

// repair is what chains are filled up with, and the chains that are filled up already, by what they were.
type repair struct {
	drop, fresh []int
	done        map[key][]int
}

// chains are those of a segment, filled up.
func (r *repair) chains(old [][]int) ([][]int, api.Errno) {
	var list [][]int
	for _, c := range old {
		filled, e := r.chain(c)
		if e != api.OK {
			return nil, e
		}
		list = append(list, filled)
	}
	return list, api.OK
}

// chain is a chain, filled up; an equal one takes what the first one got.
func (r *repair) chain(old []int) ([]int, api.Errno) {
	k := keyOf(old)
	if filled, ok := r.done[k]; ok {
		return filled, api.OK
	}
	left := slices.DeleteFunc(slices.Clone(old), func(unit int) bool { return slices.Contains(r.drop, unit) })
	lost := len(old) - len(left)
	switch {
	case len(left) == 0:
		return nil, api.ErrChain
	case lost > len(r.fresh):
		return nil, api.ErrArg
	}
	filled := append(left, r.fresh[:lost]...)
	r.fresh = r.fresh[lost:]
	r.done[k] = filled
	return filled, api.OK
}

// keyOf is a valid chain's.
func keyOf(units []int) key {
	var k key
	for i, u := range units {
		k[i] = u + 1
	}
	return k
}

// checked is a layout, if it is valid, with chains in memory of their own; its list of segments must be new.
func checked(l api.Layout) (api.Layout, api.Errno) {
	if !Right(l) {
		return api.Layout{}, api.ErrLayout
	}
	for i, s := range l.Segments {
		l.Segments[i].Chains = copyOf(s.Chains)
	}
	return l, api.OK
}

// copyOf are chains, each in memory of its own.
func copyOf(chains [][]int) [][]int {
	list := slices.Clone(chains)
	for i, c := range list {
		list[i] = slices.Clone(c)
	}
	return list
}
