package wire

import (
	"assent/api"
	"assent/codec"
	"assent/digest"
)

// A mark goes ahead of a form that is digested, so that things of two kinds never have one text, nor do they and the nodes of a list's tree.
const (
	txMark     = 16
	headerMark = 17
	certMark   = 18
)

// TxId is the digest of a transaction's form.
func TxId(x api.Tx) (api.Hash, api.Errno) { return idOf(txMark, x, PlainTx, laySealedTx) }

// BlockId is the digest of a header's form, and never the zero Hash.
func BlockId(x api.Header) (api.Hash, api.Errno) {
	h, e := idOf(headerMark, x, PlainHeader, layHeader)
	if e != api.OK {
		return api.Hash{}, e
	}
	return someId(h), api.OK
}

// CertId is the digest of a certificate's form; that of the zero certificate is the zero Hash.
func CertId(x api.Cert) (api.Hash, api.Errno) {
	if isZeroCert(x) {
		return api.Hash{}, api.OK
	}
	return idOf(certMark, x, PlainCert, layCert)
}

// someId keeps a block from the id that stands for no block.
func someId(h api.Hash) api.Hash {
	if isNone(h) {
		h[len(h)-1] = 1
	}
	return h
}

func idOf[T any](mark byte, x T, plain func(T) api.Errno, lay func(*codec.Writer, T)) (api.Hash, api.Errno) {
	b, e := encode(x, plain, func(w *codec.Writer, x T) {
		w.Byte(mark)
		lay(w, x)
	})
	if e != api.OK {
		return api.Hash{}, e
	}
	return digest.Sum(b), api.OK
}

// TxsRoot is the root of a list of transactions.
func TxsRoot(l []api.Tx) (api.Hash, api.Errno) { return rootOf(l, api.MaxTxs, EncodeTx) }

// EvidenceRoot is the root of a list of pieces of evidence.
func EvidenceRoot(l []api.Evidence) (api.Hash, api.Errno) {
	return rootOf(l, api.MaxEvidence, EncodeEvidence)
}

func rootOf[T any](l []T, most int, form func(T) ([]byte, api.Errno)) (api.Hash, api.Errno) {
	if len(l) > most {
		return api.Hash{}, api.ErrBig
	}
	forms := make([][]byte, len(l))
	for k, x := range l {
		b, e := form(x)
		if e != api.OK {
			return api.Hash{}, e
		}
		forms[k] = b
	}
	return digest.Root(forms)
}
