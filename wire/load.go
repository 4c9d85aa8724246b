package wire

import (
	"assent/api"
	"assent/codec"
)

// msgUses is what a Msg of that kind uses, in the order of its form; nothing, if there is no such kind.
func msgUses(kind int) []part {
	switch kind {
	case api.MsgProposal:
		return []part{proposalPart(), blockPart(), validPart()}
	case api.MsgVote:
		return []part{votePart()}
	case api.MsgPolka:
		return []part{blockPart(), polkaPart()}
	case api.MsgStatus:
		return []part{heightPart(), roundPart()}
	case api.MsgDecision:
		return []part{blockPart(), certPart()}
	case api.MsgTx:
		return []part{txPart()}
	case api.MsgEvidence:
		return []part{evidencePart()}
	}
	return nil
}

// inputUses is the same of an Input.
func inputUses(kind int) []part {
	switch kind {
	case api.InStart:
		return []part{nowPart()}
	case api.InProposal:
		return []part{nowPart(), proposalPart(), blockPart(), validPart(), goodPart()}
	case api.InVote:
		return []part{nowPart(), votePart()}
	case api.InPolka:
		return []part{nowPart(), blockPart(), polkaPart(), goodPart()}
	case api.InTimeout:
		return []part{nowPart(), stepPart(), roundPart()}
	case api.InBuilt:
		return []part{nowPart(), blockPart(), roundPart()}
	}
	return nil
}

// PlainMsg is the first thing that is wrong with it by itself.
func PlainMsg(x api.Msg) api.Errno { return plainLoad(&load{Msg: x}, msgUses) }

// EncodeMsg is its one form.
func EncodeMsg(x api.Msg) ([]byte, api.Errno) {
	return encodeLoad(&load{Msg: x}, msgUses, api.MaxMsg)
}

// DecodeMsg reads that.
func DecodeMsg(b []byte) (api.Msg, api.Errno) {
	x, e := decodeLoad(b, msgUses, api.MaxMsg)
	return x.Msg, e
}

// PlainInput is the first thing that is wrong with it by itself.
func PlainInput(x api.Input) api.Errno { return plainLoad(inputLoad(x), inputUses) }

// EncodeInput is its one form.
func EncodeInput(x api.Input) ([]byte, api.Errno) {
	return encodeLoad(inputLoad(x), inputUses, api.MaxRecord)
}

// DecodeInput reads that.
func DecodeInput(b []byte) (api.Input, api.Errno) {
	x, e := decodeLoad(b, inputUses, api.MaxRecord)
	return x.input(), e
}

func inputLoad(x api.Input) *load {
	m := api.Msg{Kind: x.Kind, Proposal: x.Proposal, Block: x.Block, Votes: x.Votes, Round: x.Round}
	return &load{Msg: m, now: x.Now, good: x.Good, step: x.Step}
}

func (x load) input() api.Input {
	return api.Input{
		Kind:     x.Kind,
		Now:      x.now,
		Proposal: x.Proposal,
		Block:    x.Block,
		Votes:    x.Votes,
		Good:     x.good,
		Step:     x.step,
		Round:    x.Round,
	}
}

func plainLoad(x *load, usesOf func(int) []part) api.Errno {
	uses := usesOf(x.Kind)
	if len(uses) == 0 {
		return api.ErrKind
	}
	// Each part that is used is a field of its own: so if more fields are filled than such as are used, one of the others is.
	if filled(everyPart(), x) > filled(uses, x) {
		return api.ErrField
	}
	return firstWrong(uses, func(p part) api.Errno { return p.plain(x) })
}

// filled is how many of the parts are not zero.
func filled(l []part, x *load) int {
	n := 0
	for _, p := range l {
		if !p.zero(x) {
			n++
		}
	}
	return n
}

func encodeLoad(x *load, usesOf func(int) []part, most int) ([]byte, api.Errno) {
	plain := func(x *load) api.Errno { return plainLoad(x, usesOf) }
	b, e := encode(x, plain, func(w *codec.Writer, x *load) {
		w.Byte(byte(x.Kind))
		for _, p := range usesOf(x.Kind) {
			p.lay(w, x)
		}
	})
	if len(b) > most {
		return nil, api.ErrBig
	}
	return b, e
}

func decodeLoad(b []byte, usesOf func(int) []part, most int) (load, api.Errno) {
	if len(b) > most {
		return load{}, api.ErrBig
	}
	// A kind that there is not goes ahead of whatever the rest may be: nothing says how to read it.
	if len(b) > 0 && len(usesOf(int(b[0]))) == 0 {
		return load{}, api.ErrKind
	}
	plain := func(x load) api.Errno { return plainLoad(&x, usesOf) }
	return decode(b, func(r *codec.Reader) load {
		var x load
		x.Kind = int(r.Byte())
		for _, p := range usesOf(x.Kind) {
			p.read(r, &x)
		}
		return x
	}, plain)
}
