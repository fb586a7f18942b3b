package message

import (
	"bytes"

	"rotulet/api"
	"rotulet/bits"
	"rotulet/cell"
	"rotulet/layout"
)

const (
	kindBits    = 4
	roleBits    = 3
	numberBits  = 5
	idBits      = 20
	epochBits   = 21
	addressBits = 21
	errorBits   = 8
	roundBits   = 16
	clientBits  = 2

	streamsBits = 3 // how many Streams
	backsBits   = 5 // how many Backs
	streamBits  = 4
	lastBits    = 21
	sizeBits    = 8 // how many bytes of a cell's encoding, or a layout's
	byteBits    = 8

	lastNone = api.MaxAddress // what stands for None in the bits of a Last
)

// Encode are a message's bytes.
func Encode(m api.Message) ([]byte, api.Errno) {
	if !Right(m) {
		return nil, api.ErrMessage
	}
	var f fields
	f.addHead(m)
	f.addStreams(m.Streams)
	f.addBacks(m.Backs)
	// What is right but can't be encoded is empty, and is told by no bytes.
	content, _ := cell.Encode(m.Cell)
	f.addBytes(content)
	plan, _ := layout.Encode(m.Layout)
	f.addBytes(plan)
	b, ok := bits.Pack(f.widths, f.values)
	if !ok {
		return nil, api.ErrMessage
	}
	return b, api.OK
}

// Decode is the message of which Encode makes exactly these bytes.
func Decode(b []byte) (api.Message, api.Errno) {
	s := source{b: b}
	m := messageFrom(s.take)
	// Bits that are missing, a cell or a layout that can't be decoded, padding bits that are not 0 and bytes that are left show in the encoding.
	if x, e := Encode(m); e != api.OK || !bytes.Equal(x, b) {
		return api.Message{}, api.ErrMessage
	}
	return m, api.OK
}

// fields are numbers that are to be packed, and their widths.
type fields struct {
	widths []int
	values []uint64
}

// add puts a number behind the others.
func (f *fields) add(v uint64, width int) {
	f.widths = append(f.widths, width)
	f.values = append(f.values, v)
}

// addHead puts all numbers that a message always has.
func (f *fields) addHead(m api.Message) {
	f.add(uint64(m.Kind), kindBits)
	f.add(uint64(m.Of), kindBits)
	f.addPlace(m.From)
	f.addPlace(m.To)
	f.add(uint64(m.ID), idBits)
	f.add(m.Epoch, epochBits)
	f.add(m.Address, addressBits)
	f.add(uint64(m.Error), errorBits)
	f.addBallot(m.Ballot)
	f.addBallot(m.Promised)
}

func (f *fields) addPlace(p api.Place) {
	f.add(uint64(p.Role), roleBits)
	f.add(uint64(p.Number), numberBits)
}

func (f *fields) addBallot(b api.Ballot) {
	f.add(uint64(b.Round), roundBits)
	f.add(uint64(b.Client), clientBits)
}

func (f *fields) addStreams(l []int) {
	f.add(uint64(len(l)), streamsBits)
	for _, s := range l {
		f.add(uint64(s), streamBits)
	}
}

func (f *fields) addBacks(l []api.Back) {
	f.add(uint64(len(l)), backsBits)
	for _, b := range l {
		f.add(uint64(b.Stream), streamBits)
		for _, a := range b.Last {
			// Of what a valid Last has, None alone is above its own mark.
			f.add(min(a, lastNone), lastBits)
		}
	}
}

func (f *fields) addBytes(l []byte) {
	f.add(uint64(len(l)), sizeBits)
	for _, x := range l {
		f.add(uint64(x), byteBits)
	}
}

// source is bytes that are read from the first bit on; where there are no more, numbers are 0.
type source struct {
	b  []byte
	at int
}

// take is the next number.
func (s *source) take(width int) uint64 {
	v, _ := bits.Get(s.b, s.at, width)
	s.at += width
	return v
}

// messageFrom is what the next numbers say, valid or not.
func messageFrom(next func(width int) uint64) api.Message {
	m := headFrom(next)
	m.Streams = streamsFrom(next)
	m.Backs = backsFrom(next)
	// From no bytes, nothing is decoded: what is empty.
	m.Cell, _ = cell.Decode(bytesFrom(next))
	m.Layout, _ = layout.Decode(bytesFrom(next))
	return m
}

// headFrom is a message that has just the numbers that it always has.
func headFrom(next func(width int) uint64) api.Message {
	return api.Message{
		Kind:     api.MessageKind(next(kindBits)),
		Of:       api.MessageKind(next(kindBits)),
		From:     placeFrom(next),
		To:       placeFrom(next),
		ID:       int(next(idBits)),
		Epoch:    next(epochBits),
		Address:  next(addressBits),
		Error:    api.Errno(next(errorBits)),
		Ballot:   ballotFrom(next),
		Promised: ballotFrom(next),
	}
}

func placeFrom(next func(width int) uint64) api.Place {
	return api.Place{Role: api.Role(next(roleBits)), Number: int(next(numberBits))}
}

func ballotFrom(next func(width int) uint64) api.Ballot {
	return api.Ballot{Round: int(next(roundBits)), Client: int(next(clientBits))}
}

func streamsFrom(next func(width int) uint64) []int {
	var l []int
	for range next(streamsBits) {
		l = append(l, int(next(streamBits)))
	}
	return l
}

func backsFrom(next func(width int) uint64) []api.Back {
	var l []api.Back
	for range next(backsBits) {
		l = append(l, backFrom(next))
	}
	return l
}

// backFrom is the next Back; a number that stands for no address is kept as it is, for Right to refuse.
func backFrom(next func(width int) uint64) api.Back {
	b := api.Back{Stream: int(next(streamBits))}
	for i := range b.Last {
		a := next(lastBits)
		if a == lastNone {
			a = api.None
		}
		b.Last[i] = a
	}
	return b
}

func bytesFrom(next func(width int) uint64) []byte {
	var l []byte
	for range next(sizeBits) {
		l = append(l, byte(next(byteBits)))
	}
	return l
}
