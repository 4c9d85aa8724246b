package digest

import "assent/api"

// Hasher takes bytes piece by piece. It is made by New or Copy.
type Hasher struct {
	self *Hasher // itself, if New or Copy made it
	text mixer
}

// New has taken none.
func New() *Hasher { return goingOn(newMixer()) }

// Write takes bytes.
func (h *Hasher) Write(b []byte) {
	if h.made() {
		h.text.take(b)
	}
}

// Sum is the digest of all that was taken. The Hasher goes on as before.
func (h *Hasher) Sum() api.Hash {
	if !h.made() {
		return api.Hash{}
	}
	return h.text.sum()
}

// Copy goes on apart from here.
func (h *Hasher) Copy() *Hasher {
	if !h.made() {
		return nil
	}
	return goingOn(h.text)
}

func goingOn(text mixer) *Hasher {
	h := &Hasher{text: text}
	h.self = h
	return h
}

func (h *Hasher) made() bool { return h != nil && h.self == h }
