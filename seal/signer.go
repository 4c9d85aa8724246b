package seal

import (
	"assent/api"
	"assent/digest"
)

// Signer signs for one address. It is handed out by Enter.
type Signer struct {
	self *Signer // itself, if Enter handed it out
	book *Registry
	addr api.Addr
}

func newSigner(book *Registry, a api.Addr) *Signer {
	s := &Signer{book: book, addr: a}
	s.self = s
	return s
}

// Addr is whose it is.
func (s *Signer) Addr() api.Addr {
	if !s.made() {
		return 0
	}
	return s.addr
}

// Sign seals a message, and has it entered in the book.
func (s *Signer) Sign(msg []byte) (api.Seal, api.Errno) {
	// The book is asked too: it may have been wiped behind the Enter.
	if !s.made() || !s.book.made() {
		return api.Seal{}, api.ErrNil
	}
	if len(msg) > api.MaxItem {
		return api.Seal{}, api.ErrBig
	}
	s.book.note(record{s.addr, string(msg)})
	return sealOf(s.addr, msg), api.OK
}

func (s *Signer) made() bool { return s != nil && s.self == s }

// sealOf is what anybody can reckon: what makes a seal good is the record alone.
func sealOf(a api.Addr, msg []byte) api.Seal {
	var front [8]byte
	for k := range front {
		front[k] = byte(a >> (56 - 8*k))
	}
	h := digest.New()
	h.Write(front[:])
	h.Write(msg)
	sum := h.Sum()
	var s api.Seal
	copy(s[:], sum[:])
	return s
}
