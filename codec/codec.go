// Package codec lays numbers, texts and the heads of lists down as bytes, one behind the other, and reads them back. Each value has one form, and a Reader takes no other: see shared/doc/01-codec.md.
package codec

// sequence is what Bytes and Text have in common: both are so many bytes in a row.
type sequence interface {
	[]byte | string
}

const (
	groupBits = 7                     // bits of a number in one byte of a Var
	groupMask = 1<<groupBits - 1      // those bits
	moreFlag  = 1 << groupBits        // added to every byte of a Var but the last
	maxGroups = 64/groupBits + 1      // the most bytes of a Var
	lastMost  = 1<<(64%groupBits) - 1 // the most that byte number maxGroups may be: a greater one would not go into 64 bits
)
