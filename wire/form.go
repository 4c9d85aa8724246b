package wire

import (
	"assent/api"
	"assent/codec"
)

// EncodeTx is its one form.
func EncodeTx(x api.Tx) ([]byte, api.Errno) { return encode(x, PlainTx, laySealedTx) }

// DecodeTx reads that.
func DecodeTx(b []byte) (api.Tx, api.Errno) { return decode(b, readTx, PlainTx) }

func layTx(w *codec.Writer, x api.Tx, seal layBytes) {
	w.Byte(byte(x.Kind))
	w.Var(uint64(x.From))
	w.Var(uint64(x.To))
	w.Var(x.Amount)
	w.Var(x.Fee)
	w.Var(x.Nonce)
	seal(x.Seal[:])
}

func laySealedTx(w *codec.Writer, x api.Tx) { layTx(w, x, w.Raw) }

func readTx(r *codec.Reader) api.Tx {
	return api.Tx{
		Kind:   int(r.Byte()),
		From:   api.Addr(r.Var()),
		To:     api.Addr(r.Var()),
		Amount: r.Var(),
		Fee:    r.Var(),
		Nonce:  r.Var(),
		Seal:   readSeal(r.Raw),
	}
}

// EncodeVote is its one form.
func EncodeVote(x api.Vote) ([]byte, api.Errno) { return encode(x, PlainVote, laySealedVote) }

// DecodeVote reads that.
func DecodeVote(b []byte) (api.Vote, api.Errno) { return decode(b, readSealedVote, PlainVote) }

func layVote(w *codec.Writer, x api.Vote, seal layBytes) {
	w.Byte(byte(x.Kind))
	w.Var(x.Height)
	w.Var(uint64(x.Round))
	w.Raw(x.Id[:])
	w.Var(x.Time)
	w.Var(uint64(x.From))
	seal(x.Seal[:])
}

func laySealedVote(w *codec.Writer, x api.Vote) { layVote(w, x, w.Raw) }

func readVote(r *codec.Reader, seal readBytes) api.Vote {
	return api.Vote{
		Kind:   int(r.Byte()),
		Height: r.Var(),
		Round:  readInt(r),
		Id:     readHash(r),
		Time:   r.Var(),
		From:   api.Addr(r.Var()),
		Seal:   readSeal(seal),
	}
}

func readSealedVote(r *codec.Reader) api.Vote { return readVote(r, r.Raw) }

// EncodeProposal is its one form.
func EncodeProposal(x api.Proposal) ([]byte, api.Errno) {
	return encode(x, PlainProposal, laySealedProposal)
}

// DecodeProposal reads that.
func DecodeProposal(b []byte) (api.Proposal, api.Errno) {
	return decode(b, readSealedProposal, PlainProposal)
}

func layProposal(w *codec.Writer, x api.Proposal, seal layBytes) {
	w.Var(x.Height)
	w.Var(uint64(x.Round))
	w.Var(uint64(x.ValidRound + 1)) // none is -1, and a Var has no sign
	w.Raw(x.Id[:])
	w.Var(uint64(x.From))
	seal(x.Seal[:])
}

func laySealedProposal(w *codec.Writer, x api.Proposal) { layProposal(w, x, w.Raw) }

func readProposal(r *codec.Reader, seal readBytes) api.Proposal {
	return api.Proposal{
		Height:     r.Var(),
		Round:      readInt(r),
		ValidRound: readInt(r) - 1,
		Id:         readHash(r),
		From:       api.Addr(r.Var()),
		Seal:       readSeal(seal),
	}
}

func readSealedProposal(r *codec.Reader) api.Proposal { return readProposal(r, r.Raw) }

// EncodeCert is its one form.
func EncodeCert(x api.Cert) ([]byte, api.Errno) { return encode(x, PlainCert, layCert) }

// DecodeCert reads that.
func DecodeCert(b []byte) (api.Cert, api.Errno) { return decode(b, readCert, PlainCert) }

func layCert(w *codec.Writer, x api.Cert) {
	w.Var(x.Height)
	w.Var(uint64(x.Round))
	w.Raw(x.Id[:])
	layList(w, x.Marks, layMark)
}

func layMark(w *codec.Writer, x api.Mark) {
	w.Var(uint64(x.Index))
	w.Var(x.Time)
	w.Raw(x.Seal[:])
}

func readCert(r *codec.Reader) api.Cert {
	return api.Cert{
		Height: r.Var(),
		Round:  readInt(r),
		Id:     readHash(r),
		Marks:  readList(r, api.MaxSeats, readMark),
	}
}

func readMark(r *codec.Reader) api.Mark {
	return api.Mark{Index: readInt(r), Time: r.Var(), Seal: readSeal(r.Raw)}
}

// EncodeEvidence is its one form.
func EncodeEvidence(x api.Evidence) ([]byte, api.Errno) {
	return encode(x, PlainEvidence, layEvidence)
}

// DecodeEvidence reads that.
func DecodeEvidence(b []byte) (api.Evidence, api.Errno) {
	return decode(b, readEvidence, PlainEvidence)
}

func layEvidence(w *codec.Writer, x api.Evidence) {
	laySealedVote(w, x.A)
	laySealedVote(w, x.B)
}

func readEvidence(r *codec.Reader) api.Evidence {
	return api.Evidence{A: readSealedVote(r), B: readSealedVote(r)}
}

// EncodeHeader is its one form.
func EncodeHeader(x api.Header) ([]byte, api.Errno) { return encode(x, PlainHeader, layHeader) }

// DecodeHeader reads that.
func DecodeHeader(b []byte) (api.Header, api.Errno) { return decode(b, readHeader, PlainHeader) }

func layHeader(w *codec.Writer, x api.Header) {
	w.Text(x.Chain)
	w.Var(x.Height)
	w.Var(x.Time)
	for _, h := range []api.Hash{x.Last, x.Cert, x.Txs, x.Evidence, x.Council, x.Next, x.State} {
		w.Raw(h[:])
	}
	w.Var(uint64(x.Proposer))
}

func readHeader(r *codec.Reader) api.Header {
	return api.Header{
		Chain:    r.Text(api.MaxChain),
		Height:   r.Var(),
		Time:     r.Var(),
		Last:     readHash(r),
		Cert:     readHash(r),
		Txs:      readHash(r),
		Evidence: readHash(r),
		Council:  readHash(r),
		Next:     readHash(r),
		State:    readHash(r),
		Proposer: api.Addr(r.Var()),
	}
}

// EncodeBlock is its one form.
func EncodeBlock(x api.Block) ([]byte, api.Errno) { return encode(x, PlainBlock, layBlock) }

// DecodeBlock reads that.
func DecodeBlock(b []byte) (api.Block, api.Errno) {
	if len(b) > api.MaxBlock {
		return api.Block{}, api.ErrBig
	}
	return decode(b, readBlock, PlainBlock)
}

func layBlock(w *codec.Writer, x api.Block) {
	layHeader(w, x.Header)
	layList(w, x.Txs, laySealedTx)
	layList(w, x.Evidence, layEvidence)
	layCert(w, x.Last)
}

func readBlock(r *codec.Reader) api.Block {
	return api.Block{
		Header:   readHeader(r),
		Txs:      readList(r, api.MaxTxs, readTx),
		Evidence: readList(r, api.MaxEvidence, readEvidence),
		Last:     readCert(r),
	}
}
