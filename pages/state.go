package pages

import (
	"maps"
	"slices"

	"rotulet/api"
	"rotulet/runs"
)

// state is what the records of a tape describe.
type state struct {
	epoch, opened, mark uint64
	trimmed             *runs.Set           // none of them is below the mark
	cells               map[uint64]api.Cell // none of them is at a trimmed address
}

// newState is what no records describe.
func newState() state {
	return state{trimmed: runs.New(), cells: map[uint64]api.Cell{}}
}

func (s *state) isTrimmed(a uint64) bool { return a < s.mark || s.trimmed.Has(a) }

func (s *state) isWritten(a uint64) bool {
	_, ok := s.cells[a]
	return ok
}

// written are the addresses of the cells, in order.
func (s *state) written() []uint64 { return slices.Sorted(maps.Keys(s.cells)) }

// tail is the least number that is above all written and trimmed addresses.
func (s *state) tail() uint64 {
	n := s.mark
	for _, r := range s.trimmed.Runs() {
		n = max(n, r.To)
	}
	for a := range s.cells {
		n = max(n, a+1)
	}
	return n
}

// allows tells whether what a record of the tape says may come next.
func (s *state) allows(r record) bool {
	switch r.kind {
	case epochRecord:
		return r.number >= s.epoch && r.number <= api.MaxEpoch
	case cellRecord:
		return !s.isTrimmed(r.number) && !s.isWritten(r.number)
	case markRecord:
		return r.number >= s.mark && r.number <= api.MaxAddress
	case trimmedRecord:
		return r.number < r.to && r.to <= api.MaxAddress
	case openedRecord:
		return r.number >= s.opened && r.number <= api.MaxEpoch
	}
	return false
}

// execute does what a record says, which must be allowed.
func (s *state) execute(r record) {
	switch r.kind {
	case epochRecord:
		s.epoch = r.number
	case cellRecord:
		s.cells[r.number] = r.cell
	case markRecord:
		s.mark = r.number
		s.trimmed.Drop(runs.Run{From: 0, To: s.mark})
		s.removeCells(0, s.mark)
	case trimmedRecord:
		// What is below the mark is trimmed already, and has no place in the set.
		s.trimmed.Add(runs.Run{From: max(r.number, s.mark), To: r.to})
		s.removeCells(r.number, r.to)
	case openedRecord:
		s.opened = r.number
	}
}

// removeCells removes the cells from an address on, up to another one, which keeps its own.
func (s *state) removeCells(from, to uint64) {
	maps.DeleteFunc(s.cells, func(a uint64, _ api.Cell) bool { return a >= from && a < to })
}

// with is another state: this one after a record.
func (s *state) with(r record) *state {
	next := &state{epoch: s.epoch, opened: s.opened, mark: s.mark, trimmed: s.trimmed.Copy(), cells: maps.Clone(s.cells)}
	next.execute(r)
	return next
}

// records are the fewest that describe the state, as bytes, in the order in which they stand on the tape.
func (s *state) records() [][]byte {
	makers := []func(*state) []record{
		(*state).epochRecords,
		(*state).openedRecords,
		(*state).markRecords,
		(*state).trimmedRecords,
		(*state).cellRecords,
	}
	var l [][]byte
	for _, recordsOf := range makers {
		for _, r := range recordsOf(s) {
			l = append(l, r.encoded())
		}
	}
	return l
}

func (s *state) epochRecords() []record { return unlessZero(epochRecord, s.epoch) }

func (s *state) openedRecords() []record { return unlessZero(openedRecord, s.opened) }

func (s *state) markRecords() []record { return unlessZero(markRecord, s.mark) }

func (s *state) trimmedRecords() []record {
	var l []record
	for _, r := range s.trimmed.Runs() {
		l = append(l, record{kind: trimmedRecord, number: r.From, to: r.To})
	}
	return l
}

func (s *state) cellRecords() []record {
	var l []record
	for _, a := range s.written() {
		l = append(l, record{kind: cellRecord, number: a, cell: s.cells[a]})
	}
	return l
}

// unlessZero is one record with a number, or none, since a number is 0 without a record too.
func unlessZero(k kind, n uint64) []record {
	if n == 0 {
		return nil
	}
	return []record{{kind: k, number: n}}
}
