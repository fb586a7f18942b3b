package layout

import (
	"bytes"

	"rotulet/api"
	"rotulet/bits"
)

const (
	epochBits     = 21
	sequencerBits = 5
	countBits     = 2 // how many segments, chains or units, minus 1
	fromBits      = 20
	unitBits      = 5
)

// Encode are a layout's bytes.
func Encode(l api.Layout) ([]byte, api.Errno) {
	if !Right(l) {
		return nil, api.ErrLayout
	}
	var f fields
	f.add(l.Epoch, epochBits)
	f.add(uint64(l.Sequencer), sequencerBits)
	f.addCount(len(l.Segments))
	for _, s := range l.Segments {
		f.add(s.From, fromBits)
		f.addCount(len(s.Chains))
		for _, c := range s.Chains {
			f.addChain(c)
		}
	}
	b, ok := bits.Pack(f.widths, f.values)
	if !ok {
		return nil, api.ErrLayout
	}
	return b, api.OK
}

// Decode is the layout of which Encode makes exactly these bytes.
func Decode(b []byte) (api.Layout, api.Errno) {
	s := source{b: b}
	l := s.layout()
	// Bits that are missing, padding bits that are not 0 and bytes that are left show in the encoding.
	if x, e := Encode(l); e != api.OK || !bytes.Equal(x, b) {
		return api.Layout{}, api.ErrLayout
	}
	return l, api.OK
}

// fields are numbers that are to be packed, and their widths.
type fields struct {
	widths []int
	values []uint64
}

// add puts a number behind the others.
func (f *fields) add(v uint64, width int) {
	f.widths = append(f.widths, width)
	f.values = append(f.values, v)
}

// addCount puts how many there are behind the others.
func (f *fields) addCount(n int) { f.add(uint64(n-1), countBits) }

// addChain puts a chain behind the others.
func (f *fields) addChain(units []int) {
	f.addCount(len(units))
	for _, u := range units {
		f.add(uint64(u), unitBits)
	}
}

// source is bytes that are read from the first bit on; where there are no more, numbers are 0.
type source struct {
	b  []byte
	at int
}

// take is the next number.
func (s *source) take(width int) uint64 {
	v, _ := bits.Get(s.b, s.at, width)
	s.at += width
	return v
}

// takeCount is how many there are of what comes next.
func (s *source) takeCount() uint64 { return s.take(countBits) + 1 }

// layout is what the bytes say, valid or not.
func (s *source) layout() api.Layout {
	l := api.Layout{Epoch: s.take(epochBits), Sequencer: int(s.take(sequencerBits))}
	for range s.takeCount() {
		l.Segments = append(l.Segments, s.segment())
	}
	return l
}

// segment is the one that comes next.
func (s *source) segment() api.Segment {
	x := api.Segment{From: s.take(fromBits)}
	for range s.takeCount() {
		x.Chains = append(x.Chains, s.chain())
	}
	return x
}

// chain are the units of the one that comes next.
func (s *source) chain() []int {
	var units []int
	for range s.takeCount() {
		units = append(units, int(s.take(unitBits)))
	}
	return units
}
