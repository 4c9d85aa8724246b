package wire_test

import (
	"strings"
	"testing"

	"assent/api"
	"assent/wire"
)

func wantBytes(t *testing.T, what string, b []byte, e api.Errno, want string) {
	t.Helper()
	if e != api.OK || string(b) != want {
		t.Errorf("%s: % x, error %d, want % x", what, b, e, want)
	}
}

func wantNoBytes(t *testing.T, what string, b []byte, e, want api.Errno) {
	t.Helper()
	if e != want || b != nil {
		t.Errorf("%s: % x, error %d, want %d", what, b, e, want)
	}
}

func TestWhatIsSigned(t *testing.T) {
	vote := api.Vote{Kind: 1, Height: 1, From: 3}
	b, e := wire.VoteBytes("a", vote)
	wantBytes(t, "W14, example 7", b, e, "\x56\x01\x61\x01\x01\x00"+zeros(32)+"\x00\x03")
	long := strings.Repeat("\xff", api.MaxChain)
	for _, chain := range []string{"a", "\x00", long} {
		b, e = wire.TxBytes(chain, goodTx())
		wantBytes(t, "W14, TxBytes", b, e, "T"+text(chain)+txBody(goodTx()))
		b, e = wire.VoteBytes(chain, goodVote())
		wantBytes(t, "W14, VoteBytes", b, e, "V"+text(chain)+voteBody(goodVote()))
		b, e = wire.ProposalBytes(chain, goodProposal())
		wantBytes(t, "W14, ProposalBytes", b, e, "P"+text(chain)+proposalBody(goodProposal()))
	}
	for _, chain := range []string{"", long + "a"} {
		b, e = wire.TxBytes(chain, api.Tx{})
		wantNoBytes(t, "W14, TxBytes, the name ahead of the kind", b, e, api.ErrField)
		b, e = wire.TxBytes(chain, goodTx())
		wantNoBytes(t, "W14, TxBytes", b, e, api.ErrField)
		b, e = wire.VoteBytes(chain, api.Vote{})
		wantNoBytes(t, "W14, VoteBytes, the name ahead of the kind", b, e, api.ErrField)
		b, e = wire.VoteBytes(chain, goodVote())
		wantNoBytes(t, "W14, VoteBytes", b, e, api.ErrField)
		b, e = wire.ProposalBytes(chain, goodProposal())
		wantNoBytes(t, "W14, ProposalBytes", b, e, api.ErrField)
	}
	b, e = wire.TxBytes("a", api.Tx{})
	wantNoBytes(t, "W14, a transaction of no kind", b, e, api.ErrKind)
	b, e = wire.TxBytes("a", api.Tx{Kind: 1})
	wantNoBytes(t, "W14, a transaction from nobody", b, e, api.ErrField)
	b, e = wire.VoteBytes("a", api.Vote{})
	wantNoBytes(t, "W14, a vote of no kind", b, e, api.ErrKind)
	b, e = wire.ProposalBytes("a", api.Proposal{})
	wantNoBytes(t, "W14, a proposal of nothing", b, e, api.ErrField)
}

func TestTheSealIsNotSigned(t *testing.T) {
	tx, vote, p := goodTx(), goodVote(), goodProposal()
	tx.Seal, vote.Seal, p.Seal = mark(90), mark(91), mark(92)
	b, e := wire.TxBytes("a", tx)
	wantBytes(t, "W14, TxBytes", b, e, "T\x01a"+txBody(goodTx()))
	b, e = wire.VoteBytes("a", vote)
	wantBytes(t, "W14, VoteBytes", b, e, "V\x01a"+voteBody(goodVote()))
	b, e = wire.ProposalBytes("a", p)
	wantBytes(t, "W14, ProposalBytes", b, e, "P\x01a"+proposalBody(goodProposal()))
}

func wantVote(t *testing.T, what, b, chain string, vote api.Vote, want api.Errno) {
	t.Helper()
	c, v, e := wire.ReadVoteBytes([]byte(b))
	if c != chain || v != vote || e != want {
		t.Errorf("%s: %q, %+v, error %d, want error %d", what, c, v, e, want)
	}
}

func wantProposal(t *testing.T, what, b, chain string, p api.Proposal, want api.Errno) {
	t.Helper()
	c, q, e := wire.ReadProposalBytes([]byte(b))
	if c != chain || q != p || e != want {
		t.Errorf("%s: %q, %+v, error %d, want error %d", what, c, q, e, want)
	}
}

func TestReadingWhatIsSigned(t *testing.T) {
	long := strings.Repeat("c", api.MaxChain)
	for _, chain := range []string{"a", long} {
		for _, v := range []api.Vote{{Kind: 1, Height: 1, From: 3}, goodVote(), prevoteOf(9)} {
			bare := v
			bare.Seal = api.Seal{}
			wantVote(t, "W15", "V"+text(chain)+voteBody(v), chain, bare, api.OK)
		}
		for _, p := range []api.Proposal{goodProposal(), freshProposal()} {
			bare := p
			bare.Seal = api.Seal{}
			wantProposal(t, "W15", "P"+text(chain)+proposalBody(p), chain, bare, api.OK)
		}
	}
	vote, p := voteBody(goodVote()), proposalBody(goodProposal())
	for b, want := range map[string]api.Errno{
		"":                               api.ErrCut,
		"\x57\x01a" + vote:               api.ErrKind, // example 7
		"P\x01a" + vote:                  api.ErrKind,
		"T":                              api.ErrKind, // the rest is not looked at
		"T\x80\x00":                      api.ErrKind,
		"V":                              api.ErrCut,
		"V\x80\x00":                      api.ErrForm,
		"V\x11" + long + "c" + vote:      api.ErrOver,
		"V\x01a" + vote + "\x00":         api.ErrRest, // example 7
		"V\x01a" + vote + zeros(16):      api.ErrRest, // a seal
		"V\x01a" + vote[:len(vote)-1]:    api.ErrCut,
		"V\x00" + vote:                   api.ErrField, // no name
		"V\x00" + vote + "\x00":          api.ErrRest,
		"V\x00\x03" + vote[1:]:           api.ErrField, // no name, ahead of no kind
		"V\x01a\x03" + vote[1:]:          api.ErrKind,
		"V\x01a\x03" + vote[1:] + "\x00": api.ErrRest,
		"V\x01a\x01\x00\x00" + zeros(32) + "\x00\x03":             api.ErrField, // height 0
		"V\x01a\x01\x01" + number(1<<32) + zeros(32) + "\x00\x03": api.ErrField,
		"V\x01a\x01\x01\x80\x00" + zeros(32) + "\x00\x03":         api.ErrForm,
	} {
		wantVote(t, "W15, ReadVoteBytes of "+head(b), b, "", api.Vote{}, want)
	}
	for b, want := range map[string]api.Errno{
		"":                       api.ErrCut,
		"V\x01a" + p:             api.ErrKind,
		"V":                      api.ErrKind,
		"P":                      api.ErrCut,
		"P\x11" + long + "c" + p: api.ErrOver,
		"P\x01a" + p + "\x00":    api.ErrRest,
		"P\x01a" + p + zeros(16): api.ErrRest,
		"P\x01a" + p[:len(p)-1]:  api.ErrCut,
		"P\x00" + p:              api.ErrField,
		"P\x00" + p + "\x00":     api.ErrRest,
		"P\x01a\x02\x01\x02" + zeros(31) + "\x01\x09":                  api.ErrField, // valid in its round
		"P\x01a\x02\x01" + number(1<<32) + zeros(31) + "\x01\x09":      api.ErrField,
		"P\x01a\x02\x01" + number(^uint64(0)) + zeros(31) + "\x01\x09": api.ErrField,
		"P\x01a\x02\x01\x00" + zeros(32) + "\x09":                      api.ErrField, // for none
	} {
		wantProposal(t, "W15, ReadProposalBytes of "+head(b), b, "", api.Proposal{}, want)
	}
}

// TestWhatIsSignedSaysItAll: each change but that of a seal changes what is signed, and no two kinds have one text.
func TestWhatIsSignedSaysItAll(t *testing.T) {
	seen := map[string]string{}
	note := func(what string, b []byte, e api.Errno) {
		t.Helper()
		if e != api.OK {
			t.Errorf("P4.4: %s: error %d", what, e)
		}
		if other, ok := seen[string(b)]; ok {
			t.Errorf("P4.4: %s is signed as %s", what, other)
		}
		seen[string(b)] = what
	}
	for _, chain := range []string{"a", "b", "aa", "a\x01", "\x01a"} {
		for what, change := range map[string]func(*api.Tx){
			"tx": func(*api.Tx) {}, "tx from": func(x *api.Tx) { x.From++ }, "tx to": func(x *api.Tx) { x.To++ }, "tx amount": func(x *api.Tx) { x.Amount++ },
			"tx fee": func(x *api.Tx) { x.Fee++ }, "tx nonce": func(x *api.Tx) { x.Nonce++ }, "tx bond": func(x *api.Tx) { x.Kind, x.To = 2, 0 }, "tx unbond": func(x *api.Tx) { x.Kind, x.To = 3, 0 },
		} {
			b, e := wire.TxBytes(chain, changed(goodTx(), change))
			note(chain+" "+what, b, e)
		}
		for what, change := range map[string]func(*api.Vote){
			"vote": func(*api.Vote) {}, "vote kind": func(x *api.Vote) { x.Kind, x.Time = 1, 0 }, "vote height": func(x *api.Vote) { x.Height++ }, "vote round": func(x *api.Vote) { x.Round++ },
			"vote id": func(x *api.Vote) { x.Id[31]++ }, "vote time": func(x *api.Vote) { x.Time++ }, "vote from": func(x *api.Vote) { x.From++ },
		} {
			b, e := wire.VoteBytes(chain, changed(goodVote(), change))
			note(chain+" "+what, b, e)
		}
		for what, change := range map[string]func(*api.Proposal){
			"proposal": func(*api.Proposal) {}, "proposal height": func(x *api.Proposal) { x.Height++ }, "proposal round": func(x *api.Proposal) { x.Round++ },
			"proposal valid": func(x *api.Proposal) { x.ValidRound++ }, "proposal none valid": func(x *api.Proposal) { x.ValidRound = -1 },
			"proposal id": func(x *api.Proposal) { x.Id[0]++ }, "proposal from": func(x *api.Proposal) { x.From++ },
		} {
			b, e := wire.ProposalBytes(chain, changed(goodProposal(), change))
			note(chain+" "+what, b, e)
		}
	}
}
