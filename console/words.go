package console

import (
	"math"
	"strconv"
	"strings"

	"assent/api"
	"assent/cluster"
)

const (
	remark  = '#'                // what begins with it, and all behind, is not looked at
	teller  = "@"                // an id that begins with it is the one that a node tells
	toAll   = "all"              // in the place of a node
	noBlock = "none"             // in the place of an id
	digits  = "0123456789abcdef" // of an id
)

// wordsOf are all that count of a line.
func wordsOf(line string) []string {
	all := strings.FieldsFunc(line, isBlank)
	for k, word := range all {
		if word[0] == remark {
			return all[:k]
		}
	}
	return all
}

func isBlank(r rune) bool { return r == ' ' || r == '\t' || r == '\r' }

// words are those of a line that have not been read yet. Each is read as the kind that must stand there, and the line is given up, if it is of another one.
type words struct{ left []string }

func (w *words) more() bool { return len(w.left) > 0 }

// next is a word, whatever it is.
func (w *words) next() string {
	word := w.left[0]
	w.left = w.left[1:]
	return word
}

func (w *words) number() uint64 { return readNumber(w.next()) }

func (w *words) addr() api.Addr { return api.Addr(w.number()) }

// count is a number for a call that wants an int.
func (w *words) count() int { return asInt(w.number()) }

// to is whom a message is for: -1 stands for all.
func (w *words) to() int {
	word := w.next()
	if word == toAll {
		return -1
	}
	return asInt(readNumber(word))
}

// junk is a number that a byte holds.
func (w *words) junk() byte {
	n := w.number()
	if n > math.MaxUint8 {
		panic(refused{api.ErrWord})
	}
	return byte(n)
}

// kind is that of a vote.
func (w *words) kind() int {
	switch w.next() {
	case "prevote":
		return api.Prevote
	case "precommit":
		return api.Precommit
	}
	panic(refused{api.ErrWord})
}

// trouble is what befalls a disk at its call of that number.
func (w *words) trouble(at int) api.Trouble {
	switch w.next() {
	case "fault":
		return api.Trouble{At: at, Kind: api.TrFault}
	case "power":
		return api.Trouble{At: at, Kind: api.TrPower}
	case "done":
		return api.Trouble{At: at, Kind: api.TrPower, Done: true}
	}
	panic(refused{api.ErrWord})
}

// id is a block's. What a node tells only the cluster knows: so the answer is what finds the id there.
func (w *words) id() func(*cluster.Cluster) api.Hash {
	word := w.next()
	if told, ok := strings.CutPrefix(word, teller); ok {
		place, height, _ := strings.Cut(told, ":")
		node, h := asInt(readNumber(place)), readNumber(height)
		return func(c *cluster.Cluster) api.Hash { return decided(c, node, h).id }
	}
	var id api.Hash
	if word != noBlock {
		id = readHash(word)
	}
	return func(*cluster.Cluster) api.Hash { return id }
}

// readNumber takes the one way in which a number is written.
func readNumber(word string) uint64 {
	n, err := strconv.ParseUint(word, 10, 64)
	if err != nil || word[0] == '0' && word != "0" {
		panic(refused{api.ErrWord})
	}
	return n
}

// asInt is a number as the calls take it. One that is above all ints is no place and no limit lets it through: the greatest int is answered alike, where a number that has wrapped might mean something.
func asInt(n uint64) int { return int(min(n, math.MaxInt)) }

func readHash(word string) (h api.Hash) {
	if len(word) != 2*len(h) {
		panic(refused{api.ErrWord})
	}
	for k := range len(word) {
		d := strings.IndexByte(digits, word[k])
		if d < 0 {
			panic(refused{api.ErrWord})
		}
		h[k/2] = h[k/2]<<4 | byte(d)
	}
	return h
}
