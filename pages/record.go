package pages

import (
	"rotulet/api"
	"rotulet/bits"
	"rotulet/cell"
)

// kind is a record's.
type kind uint64

const (
	epochRecord kind = 1 + iota
	cellRecord
	markRecord
	trimmedRecord
	openedRecord
)

const (
	kindBits    = 3
	addressBits = 20 // of an address alone
	numberBits  = 21 // of an epoch, or of an address or the number behind the last one

	cellBegin = (kindBits + addressBits + 7) / 8 // the bytes ahead of a cell's encoding
)

// record is what a record of the tape says.
type record struct {
	kind   kind
	number uint64   // the epoch, the cell's address, the mark, or the first of the trimmed addresses
	to     uint64   // of trimmed addresses: all of them are less
	cell   api.Cell // of a cell
}

// recordOf is the record that these bytes say; false if they say none. Its numbers may be too large, or may not stand where they stand.
func recordOf(b []byte) (record, bool) {
	k, ok := bits.Get(b, 0, kindBits)
	if !ok {
		return record{}, false
	}
	packed, rest := b, []byte(nil)
	if kind(k) == cellRecord {
		n := min(cellBegin, len(b))
		packed, rest = b[:n], b[n:]
	}
	fields, ok := bits.Unpack(widths(kind(k)), packed)
	if !ok {
		return record{}, false
	}
	r := record{kind: kind(fields[0]), number: fields[1], to: fields[2]}
	if r.kind == cellRecord {
		c, e := cell.Decode(rest)
		r.cell, ok = c, e == api.OK
	}
	return r, ok
}

// encoded are a record's bytes on the tape; none, which the tape refuses, if there are none that say it.
func (r record) encoded() []byte {
	packed, ok := bits.Pack(widths(r.kind), []uint64{uint64(r.kind), r.number, r.to})
	if !ok || r.kind != cellRecord {
		return packed
	}
	behind, e := cell.Encode(r.cell)
	if e != api.OK {
		return nil
	}
	return append(packed, behind...)
}

// widths are those of a record's fields: the kind, the number, and to, which has no bits where nothing is trimmed; none if there is no such kind.
func widths(k kind) []int {
	switch k {
	case epochRecord, markRecord, openedRecord:
		return []int{kindBits, numberBits, 0}
	case cellRecord:
		return []int{kindBits, addressBits, 0}
	case trimmedRecord:
		return []int{kindBits, numberBits, numberBits}
	}
	return nil
}
