package acceptor

import (
	"rotulet/api"
	"rotulet/bits"
	"rotulet/layout"
)

// kind is a record's.
type kind uint64

const (
	promise kind = iota
	acceptance
)

const (
	kindBits   = 1
	epochBits  = 21
	roundBits  = 16
	clientBits = 2

	headSize = (kindBits + epochBits + roundBits + clientBits + 7) / 8 // the bytes ahead of a layout's encoding

	maxRound = 1<<roundBits - 1
)

// record is what a record of the tape says.
type record struct {
	kind   kind
	epoch  uint64
	ballot api.Ballot
	layout api.Layout // of an acceptance
}

// recordOf is the record that these bytes say; false if they say none, or one that is never right, whatever stands ahead of it.
func recordOf(b []byte) (record, bool) {
	n := min(headSize, len(b))
	head, ok := bits.Unpack(widths(), b[:n])
	if !ok {
		return record{}, false
	}
	r := record{kind: kind(head[0]), epoch: head[1], ballot: api.Ballot{Round: int(head[2]), Client: int(head[3])}}
	if !isEpoch(r.epoch) || !isBallot(r.ballot) {
		return record{}, false
	}
	if r.kind == promise {
		return r, len(b) == headSize
	}
	l, e := layout.Decode(b[n:])
	r.layout = l
	return r, e == api.OK && isLayout(r.epoch, l)
}

// encoded are a record's bytes on the tape; none, which the tape refuses, if there are none that say it.
func (r record) encoded() []byte {
	head, ok := bits.Pack(widths(), []uint64{uint64(r.kind), r.epoch, uint64(r.ballot.Round), uint64(r.ballot.Client)})
	if !ok || r.kind == promise {
		return head
	}
	behind, e := layout.Encode(r.layout)
	if e != api.OK {
		return nil
	}
	return append(head, behind...)
}

// widths are those of the fields that each record begins with: the kind, the epoch, the ballot's round and its client.
func widths() []int { return []int{kindBits, epochBits, roundBits, clientBits} }

// fewest are the fewest records that describe states, as bytes, in the order in which they stand on the tape.
func fewest(states map[uint64]State) [][]byte {
	var l [][]byte
	for _, epoch := range epochsOf(states) {
		s := states[epoch]
		if s.Accepted != (api.Ballot{}) {
			l = append(l, record{kind: acceptance, epoch: epoch, ballot: s.Accepted, layout: s.Layout}.encoded())
		}
		// What is promised is never less than what is accepted, so that it is greater if it is another one.
		if s.Promised != s.Accepted {
			l = append(l, record{kind: promise, epoch: epoch, ballot: s.Promised}.encoded())
		}
	}
	return l
}
