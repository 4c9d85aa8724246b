package archive

import (
	"strconv"
	"strings"

	"assent/api"
	"assent/digest"
	"assent/disk"
)

const (
	blockMark  = "block-" // a block's name begins so
	digitCount = 16       // and so many digits follow, so that names stand in the order of the heights
	stateName  = "state"
	sumLength  = len(api.Hash{}) // so many bytes of a file are the digest of those ahead
)

func blockName(height uint64) string {
	digits := strconv.FormatUint(height, 16)
	return blockMark + strings.Repeat("0", digitCount-len(digits)) + digits
}

// blockHeight is the height whose block has that name, if it is a block's.
func blockHeight(name string) (uint64, bool) {
	digits, _ := strings.CutPrefix(name, blockMark)
	h, err := strconv.ParseUint(digits, 16, 64)
	return h, err == nil && name == blockName(h)
}

// headOf is the last of the heights that follow one another from 1 on, by the files' names, which rise: so the heights among them do.
func headOf(names []string) (uint64, api.Errno) {
	head := uint64(0)
	for _, name := range names {
		h, is := blockHeight(name)
		switch {
		case !is:
			continue
		case h != head+1:
			return 0, api.ErrGap
		}
		head = h
	}
	return head, api.OK
}

// summed is a text with its digest behind it.
func summed(text []byte) []byte {
	sum := digest.Sum(text)
	return append(text, sum[:]...)
}

// read is what the text of a file says.
func read[T any](d *disk.Disk, name string, decode func([]byte) (T, api.Errno)) (T, error) {
	var none T
	b, e := d.Read(name)
	switch {
	case e == api.ErrNoFile:
		return none, spoiltBy(e)
	case e != api.OK:
		return none, fault{number: e}
	case len(b) < sumLength:
		return none, spoiltBy(api.ErrCut)
	}
	end := len(b) - sumLength
	if digest.Sum(b[:end]) != api.Hash(b[end:]) {
		return none, spoiltBy(api.ErrRoot)
	}
	x, e := decode(b[:end])
	if e != api.OK {
		return none, spoiltBy(e)
	}
	return x, nil
}
