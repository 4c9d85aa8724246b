package wire_test

import (
	"crypto/sha256"
	"slices"
	"testing"

	"assent/api"
	"assent/digest"
	"assent/wire"
)

func wantHash(t *testing.T, what string, h api.Hash, e api.Errno, want api.Hash) {
	t.Helper()
	if e != api.OK || h != want {
		t.Errorf("%s: %x, error %d, want %x", what, h, e, want)
	}
}

func wantNoHash(t *testing.T, what string, h api.Hash, e, want api.Errno) {
	t.Helper()
	if e != want || h != (api.Hash{}) {
		t.Errorf("%s: %x, error %d, want %d", what, h, e, want)
	}
}

func sumOf(s string) api.Hash { return sha256.Sum256([]byte(s)) }

func TestIds(t *testing.T) {
	h, e := wire.TxId(goodTx())
	wantHash(t, "W16, TxId", h, e, sumOf("\x10"+txForm(goodTx())))
	h, e = wire.TxId(changed(goodTx(), func(x *api.Tx) { x.Seal[15]++ }))
	if e != api.OK || h == sumOf("\x10"+txForm(goodTx())) {
		t.Errorf("W16, TxId: the seal does not count: %x, error %d", h, e)
	}
	h, e = wire.BlockId(goodHeader())
	wantHash(t, "W16, BlockId", h, e, sumOf("\x11"+headerForm(goodHeader())))
	h, e = wire.CertId(goodCert())
	wantHash(t, "W16, CertId", h, e, sumOf("\x12"+certForm(goodCert())))
	h, e = wire.CertId(api.Cert{Height: 1, Id: id(1)})
	wantHash(t, "W16, CertId of no marks", h, e, sumOf("\x12\x01\x00"+idText(1)+"\x00"))
	for _, zero := range []api.Cert{{}, {Marks: []api.Mark{}}} {
		h, e = wire.CertId(zero)
		wantHash(t, "W16, CertId of the zero certificate", h, e, api.Hash{})
	}
	h, e = wire.TxId(api.Tx{Kind: 9})
	wantNoHash(t, "W16, TxId", h, e, api.ErrKind)
	h, e = wire.TxId(api.Tx{Kind: 1})
	wantNoHash(t, "W16, TxId", h, e, api.ErrField)
	h, e = wire.BlockId(api.Header{})
	wantNoHash(t, "W16, BlockId", h, e, api.ErrField)
	h, e = wire.CertId(api.Cert{Height: 3})
	wantNoHash(t, "W16, CertId", h, e, api.ErrField)
	h, e = wire.CertId(api.Cert{Height: 3, Id: id(1), Marks: make([]api.Mark, 2)})
	wantNoHash(t, "W16, CertId", h, e, api.ErrOrder)
}

func idText(k byte) string {
	h := id(k)
	return string(h[:])
}

// TestIdsBindAll: each change of a field changes the id.
func TestIdsBindAll(t *testing.T) {
	ids := map[api.Hash]int{}
	for k, change := range []func(*api.Header){
		func(*api.Header) {}, func(x *api.Header) { x.Chain += "a" }, func(x *api.Header) { x.Height++ }, func(x *api.Header) { x.Time++ },
		func(x *api.Header) { x.Last[0]++ }, func(x *api.Header) { x.Cert[0]++ }, func(x *api.Header) { x.Txs[0]++ }, func(x *api.Header) { x.Evidence[0]++ },
		func(x *api.Header) { x.Council[0]++ }, func(x *api.Header) { x.Next[0]++ }, func(x *api.Header) { x.State[31]++ }, func(x *api.Header) { x.Proposer++ },
		func(x *api.Header) { x.Council, x.Next = x.Next, x.Council },
	} {
		h, e := wire.BlockId(changed(goodHeader(), change))
		if other, ok := ids[h]; e != api.OK || ok {
			t.Errorf("P4.7: change %d has the id of change %d, error %d", k, other, e)
		}
		ids[h] = k
	}
	for k, change := range []func(*api.Cert){
		func(*api.Cert) {}, func(x *api.Cert) { x.Height++ }, func(x *api.Cert) { x.Round++ }, func(x *api.Cert) { x.Id[0]++ },
		func(x *api.Cert) { x.Marks = x.Marks[:1] }, func(x *api.Cert) { x.Marks[0].Time++ }, func(x *api.Cert) { x.Marks[0].Seal[0]++ }, func(x *api.Cert) { x.Marks[0].Index++ },
	} {
		h, e := wire.CertId(changed(goodCert(), change))
		if other, ok := ids[h]; e != api.OK || ok {
			t.Errorf("P4.7: change %d of a certificate has the id of change %d, error %d", k, other, e)
		}
		ids[h] = 100 + k
	}
}

func TestRoots(t *testing.T) {
	none, _ := digest.Root(nil)
	for _, l := range [][]api.Tx{nil, {}} {
		h, e := wire.TxsRoot(l)
		wantHash(t, "W17, example 9", h, e, none)
	}
	h, e := wire.EvidenceRoot(nil)
	wantHash(t, "W17, EvidenceRoot of none", h, e, none)
	other := changed(goodTx(), func(x *api.Tx) { x.Nonce = 3 })
	two, _ := digest.Root([][]byte{[]byte(txForm(goodTx())), []byte(txForm(other))})
	h, e = wire.TxsRoot([]api.Tx{goodTx(), other})
	wantHash(t, "W17, TxsRoot", h, e, two)
	h, _ = wire.TxsRoot([]api.Tx{other, goodTx()})
	if h == two {
		t.Error("W17: the order does not count")
	}
	again, _ := digest.Root([][]byte{[]byte(evidenceForm(goodEvidence())), []byte(evidenceForm(goodEvidence()))})
	h, e = wire.EvidenceRoot([]api.Evidence{goodEvidence(), goodEvidence()})
	wantHash(t, "W17, EvidenceRoot", h, e, again)
}

func TestRootsRefuse(t *testing.T) {
	txs := slices.Repeat([]api.Tx{goodTx()}, 1000)
	if h, e := wire.TxsRoot(txs); e != api.OK || h == (api.Hash{}) {
		t.Errorf("W17, TxsRoot of 1000: error %d", e)
	}
	h, e := wire.TxsRoot(append(txs, goodTx()))
	wantNoHash(t, "W17, TxsRoot of 1001", h, e, api.ErrBig)
	h, e = wire.TxsRoot(make([]api.Tx, 1001))
	wantNoHash(t, "W17, TxsRoot of 1001 that are not plain", h, e, api.ErrBig)
	h, e = wire.TxsRoot([]api.Tx{goodTx(), {}, {Kind: 1}})
	wantNoHash(t, "W17, TxsRoot, first no kind", h, e, api.ErrKind)
	h, e = wire.TxsRoot([]api.Tx{goodTx(), {Kind: 1}, {}})
	wantNoHash(t, "W17, TxsRoot, first a wrong field", h, e, api.ErrField)
	pieces := slices.Repeat([]api.Evidence{goodEvidence()}, 16)
	if h, e := wire.EvidenceRoot(pieces); e != api.OK || h == (api.Hash{}) {
		t.Errorf("W17, EvidenceRoot of 16: error %d", e)
	}
	h, e = wire.EvidenceRoot(append(pieces, goodEvidence()))
	wantNoHash(t, "W17, EvidenceRoot of 17", h, e, api.ErrBig)
	h, e = wire.EvidenceRoot([]api.Evidence{{A: goodEvidence().B, B: goodEvidence().A}, {}})
	wantNoHash(t, "W17, EvidenceRoot", h, e, api.ErrOrder)
}
