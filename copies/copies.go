// Package copies copies what has lists in it: a copy shares no memory with what it was made of, so that no layer sees what another one, or its caller, does to it later.
package copies

import (
	"bytes"
	"slices"

	"rotulet/api"
)

// Layout is a copy of a layout.
func Layout(l api.Layout) api.Layout {
	l.Segments = slices.Clone(l.Segments)
	for i, s := range l.Segments {
		chains := slices.Clone(s.Chains)
		for k, c := range chains {
			chains[k] = slices.Clone(c)
		}
		l.Segments[i].Chains = chains
	}
	return l
}

// Cell is a copy of a cell.
func Cell(c api.Cell) api.Cell {
	c.Data, c.Backs = bytes.Clone(c.Data), slices.Clone(c.Backs)
	return c
}
