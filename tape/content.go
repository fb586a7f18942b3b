package tape

import (
	"slices"

	"rotulet/api"
	"rotulet/disk"
)

// content is what a half has: frames, one after the other.
type content struct {
	half   int
	frames []byte
	ends   []int // where each record ends in frames
}

// contentOf is the content of a half that consists of these bytes; false if the last frame is not complete, or one of them has no record.
func contentOf(half int, frames []byte) (content, bool) {
	c := content{half: half, frames: frames}
	for at := 0; at < len(frames); {
		b, ok := firstRecord(frames[at:])
		if !ok {
			return content{}, false
		}
		at += frameSize(b)
		c.ends = append(c.ends, at)
	}
	return c, true
}

// firstRecord is the record in the frame that bytes begin with; false if there is none.
func firstRecord(frames []byte) ([]byte, bool) {
	if len(frames) < lengthSize {
		return nil, false
	}
	n, behind := int(number(frames[:lengthSize])), frames[lengthSize:]
	if n > len(behind) {
		return nil, false
	}
	return behind[:n], isRecord(behind[:n])
}

// with is the content and one more record. It may lie in c's memory behind c's end, so that of all contents made of c just the last one is good.
func (c content) with(b []byte) content {
	c.frames = append(putNumber(c.frames, uint32(len(b)), lengthSize), b...)
	c.ends = append(c.ends, len(c.frames))
	return c
}

// records is how many records there are.
func (c content) records() int { return len(c.ends) }

// record is the i-th record, which must be there.
func (c content) record(i int) []byte {
	from := lengthSize
	if i > 0 {
		from += c.ends[i-1]
	}
	return c.frames[from:c.ends[i]]
}

// super is the superblock that tells of this content.
func (c content) super() super {
	return super{half: byte(c.half), records: uint32(c.records()), bytes: uint32(len(c.frames))}
}

// super is what a superblock tells.
type super struct {
	half           byte
	records, bytes uint32
}

// superOf is what a sector tells as a superblock; false if it is none.
func superOf(s disk.Sector) (super, bool) {
	p := super{
		half:    s[0],
		records: number(s[1 : 1+numberSize]),
		bytes:   number(s[1+numberSize : 1+2*numberSize]),
	}
	// Held against the whole sector, so that all other bytes must be 0.
	return p, p.half <= 1 && p.sector() == s
}

// sector is the superblock's.
func (p super) sector() disk.Sector {
	b := putNumber([]byte{p.half}, p.records, numberSize)
	return disk.Fill(putNumber(b, p.bytes, numberSize))
}

// number is the number that bytes make, the highest one first.
func number(b []byte) uint32 {
	var n uint32
	for _, x := range b {
		n = n<<8 | uint32(x)
	}
	return n
}

// putNumber puts n behind b, in so many bytes, the highest one first.
func putNumber(b []byte, n uint32, size int) []byte {
	for i := size - 1; i >= 0; i-- {
		b = append(b, byte(n>>(8*i)))
	}
	return b
}

// isRecord tells whether bytes are as many as a record may have.
func isRecord(b []byte) bool { return len(b) >= 1 && len(b) <= api.MaxRecord }

func areRecords(l [][]byte) bool {
	return !slices.ContainsFunc(l, func(b []byte) bool { return !isRecord(b) })
}

// frameSize is how many bytes the frame of a record has.
func frameSize(b []byte) int { return lengthSize + len(b) }

// framesSize is how many bytes the frames of records have.
func framesSize(l [][]byte) int {
	n := 0
	for _, b := range l {
		n += frameSize(b)
	}
	return n
}
