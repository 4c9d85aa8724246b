package wal

import (
	"assent/api"
	"assent/codec"
)

const (
	mark      = 0xa7 // what every frame begins with
	checkSize = 4
	sizeEnd   = 1 + 4               // behind the mark and the record's size
	headSize  = sizeEnd + checkSize // they have a check of their own, so that the size can be believed ahead of the record
	aroundRec = headSize + checkSize
)

// fourBits is what comes over the register when these four bits have gone out of it.
var fourBits = [16]uint32{
	0x00000000, 0x1db71064, 0x3b6e20c8, 0x26d930ac,
	0x76dc4190, 0x6b6b51f4, 0x4db26158, 0x5005713c,
	0xedb88320, 0xf00f9344, 0xd6d6a3e8, 0xcb61b38c,
	0x9b64c2b0, 0x86d3d2d4, 0xa00ae278, 0xbdbdf21c,
}

// Frame is how a record lies in a file.
func Frame(rec []byte) ([]byte, api.Errno) {
	if len(rec) > api.MaxRecord {
		return nil, api.ErrBig
	}
	w := codec.NewWriter()
	w.Byte(mark)
	w.U32(uint32(len(rec)))
	head, _ := w.Out()
	w.U32(check(head))
	w.Raw(rec)
	w.U32(check(rec))
	return w.Out()
}

// Scan tells the whole records at the beginning of bytes, and where they end.
func Scan(b []byte) ([][]byte, int) {
	var recs [][]byte
	end := 0
frames:
	for {
		rest := b[end:]
		// Each of these may be asked only where those ahead of it do not hold.
		switch {
		case len(rest) < headSize,
			rest[0] != mark,
			!checked(rest[:headSize]),
			sizeTold(rest) > api.MaxRecord,
			len(rest) < frameSize(rest),
			!checked(rest[headSize:frameSize(rest)]):
			break frames
		}
		recs = append(recs, copied(rest[headSize:frameSize(rest)-checkSize]))
		end += frameSize(rest)
	}
	return recs, end
}

// sizeTold is how many bytes a frame's head says that its record has.
func sizeTold(frame []byte) uint32 { return number(frame[1:sizeEnd]) }

func frameSize(frame []byte) int { return int(sizeTold(frame)) + aroundRec }

// checked: are the last bytes the check of those ahead of them?
func checked(b []byte) bool {
	n := len(b) - checkSize
	return number(b[n:]) == check(b[:n])
}

func number(b []byte) uint32 { return codec.NewReader(b).U32() }

// check is the 32-bit cyclic redundancy check that is usual in archives.
func check(b []byte) uint32 {
	register := ^uint32(0)
	for _, c := range b {
		register ^= uint32(c)
		register = fourBits[register&15] ^ register>>4
		register = fourBits[register&15] ^ register>>4
	}
	return ^register
}

func copied(b []byte) []byte {
	own := make([]byte, len(b))
	copy(own, b)
	return own
}
