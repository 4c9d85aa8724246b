package council_test

import (
	"encoding/binary"
	"encoding/hex"
	"math"
	"math/rand"
	"slices"
	"testing"

	"assent/api"
	"assent/council"
	"assent/digest"
)

const supply = api.MaxSupply

// row is members as the chapter's examples have them: (Addr, Power, Priority).
type row [][3]int64

func (x row) members() (l []api.Member) {
	for _, m := range x {
		l = append(l, api.Member{Addr: api.Addr(m[0]), Power: uint64(m[1]), Priority: m[2]})
	}
	return l
}

func (x row) council() api.Council { return api.Council{Members: x.members()} }

// equals are n members with one power each, with the addresses 1 to n.
func equals(n int, power uint64) (l []api.Member) {
	for k := range n {
		l = append(l, api.Member{Addr: api.Addr(k + 1), Power: power})
	}
	return l
}

func withPriorities(l []api.Member, p int64) []api.Member {
	l = slices.Clone(l)
	for k := range l {
		l[k].Priority = p
	}
	return l
}

// wrongLists are refused by Sound, and by New.
var wrongLists = []struct {
	what string
	l    []api.Member
	want api.Errno
}{
	{"none", nil, api.ErrEmpty},
	{"an empty list", []api.Member{}, api.ErrEmpty},
	{"65 members", equals(65, 1), api.ErrBig},
	{"200 members", equals(200, 1), api.ErrBig},
	{"65 times nobody", make([]api.Member, 65), api.ErrBig},
	{"nobody", row{{0, 1, 0}}.members(), api.ErrNobody},
	{"nobody, of no power", row{{0, 0, 0}}.members(), api.ErrNobody},
	{"nobody behind another", row{{1, 1, 0}, {0, 1, 0}}.members(), api.ErrNobody},
	{"nobody twice", row{{0, 1, 0}, {0, 1, 0}}.members(), api.ErrNobody},
	{"twice the same", row{{2, 1, 0}, {2, 1, 0}}.members(), api.ErrDouble},
	{"falling", row{{2, 1, 0}, {1, 1, 0}}.members(), api.ErrDouble},
	{"the last one falls", row{{1, 1, 0}, {2, 1, 0}, {4, 1, 0}, {3, 1, 0}}.members(), api.ErrDouble},
	{"twice, not side by side", row{{1, 1, 0}, {2, 1, 0}, {1, 1, 0}}.members(), api.ErrDouble},
	{"the greatest address ahead", row{{-1, 1, 0}, {1, 1, 0}}.members(), api.ErrDouble},
	{"twice, of no power", row{{2, 1, 0}, {2, 0, 0}}.members(), api.ErrDouble},
	{"no power", row{{1, 0, 0}}.members(), api.ErrPower},
	{"the last one has no power", row{{1, 1, 0}, {2, 1, 0}, {3, 0, 0}}.members(), api.ErrPower},
	{"a power above all", row{{1, supply + 1, 0}}.members(), api.ErrPower},
	{"the greatest power", []api.Member{{Addr: 1, Power: math.MaxUint64}}, api.ErrPower},
	{"a power that would wrap the sum", []api.Member{{Addr: 1, Power: 2}, {Addr: 2, Power: math.MaxUint64}}, api.ErrPower},
	{"no power ahead of nobody", row{{1, 0, 0}, {0, 1, 0}}.members(), api.ErrPower},
	{"nobody ahead of no power", row{{1, 1, 0}, {0, 1, 0}, {3, 0, 0}}.members(), api.ErrNobody},
	{"twice ahead of nobody", row{{1, 1, 0}, {1, 1, 0}, {0, 1, 0}}.members(), api.ErrDouble},
	{"together one too much", row{{1, supply, 0}, {2, 1, 0}}.members(), api.ErrTotal},
	{"together too much, then one of no power", row{{1, supply, 0}, {2, supply, 0}, {3, 0, 0}}.members(), api.ErrPower},
	{"together too much, then nobody", row{{1, supply, 0}, {2, supply, 0}, {0, 1, 0}}.members(), api.ErrNobody},
	{"together too much, then twice", row{{1, supply, 0}, {2, supply, 0}, {2, 1, 0}}.members(), api.ErrDouble},
	{"17 times all: the sum wraps", equals(17, supply), api.ErrTotal},
	{"64 times all: the sum wraps often", equals(64, supply), api.ErrTotal},
	{"32 times 2^59: the sum wraps to 0", equals(32, 1<<59), api.ErrTotal},
	{"64 times 2^58: the sum wraps to 0", equals(64, 1<<58), api.ErrTotal},
	{"64 that are together one too much", equals(64, 1<<54), api.ErrTotal},
}

func goodLists() [][]api.Member {
	last := equals(64, 1<<54)
	last[63].Power--
	return [][]api.Member{
		row{{1, 1, 0}}.members(),
		row{{1, supply, 0}}.members(),
		row{{-1, supply, 0}}.members(),
		row{{1, 1, 0}, {2, 2, 0}, {3, 3, 0}}.members(),
		row{{1, supply - 1, 0}, {-1, 1, 0}}.members(),
		row{{5, 1, 0}, {-5, supply - 1, 0}}.members(),
		equals(64, 1),
		last,
	}
}

func TestNewAndSoundRefuse(t *testing.T) {
	for _, c := range wrongLists {
		got, e := council.New(c.l)
		wantNothing(t, "P5.2: New of "+c.what, got, e, c.want)
		wantErr(t, "P5.1: Sound of "+c.what, council.Sound(api.Council{Members: c.l}), c.want)
		far := withPriorities(c.l, math.MinInt64)
		got, e = council.New(far)
		wantNothing(t, "P5.2: New of "+c.what+" with priorities", got, e, c.want)
		wantErr(t, "P5.1: Sound looks at the priorities last: "+c.what, council.Sound(api.Council{Members: far}), c.want)
	}
}

func TestNew(t *testing.T) {
	for _, l := range goodLists() {
		wantErr(t, "P5.1", council.Sound(api.Council{Members: l}), api.OK)
		wantCouncil(t, "P5.2", mustNew(t, l), l)
		for _, p := range []int64{1, -1, math.MaxInt64, math.MinInt64} {
			wantCouncil(t, "P5.2: the priorities are not looked at", mustNew(t, withPriorities(l, p)), l)
		}
	}
}

func TestSoundOfPriorities(t *testing.T) {
	wantErr(t, "P5.1, example", council.Sound(row{{1, 1, 8}}.council()), api.ErrArg)
	wantErr(t, "P5.1, example", council.Sound(row{{1, 1, -7}}.council()), api.OK)
	for _, l := range goodLists() {
		bound := times(7, modelTotal(l)).Int64()
		for k := range l {
			for p, want := range map[int64]api.Errno{
				0: api.OK, bound - 1: api.OK, bound: api.OK, 1 - bound: api.OK, -bound: api.OK,
				bound + 1: api.ErrArg, -bound - 1: api.ErrArg, math.MaxInt64: api.ErrArg, math.MinInt64: api.ErrArg, math.MinInt64 + 1: api.ErrArg,
			} {
				c := api.Council{Members: slices.Clone(l)}
				c.Members[k].Priority = p
				if e := council.Sound(c); e != want {
					t.Errorf("P5.1: %v: error %d, want %d", c, e, want)
				}
			}
		}
	}
}

// TestRefusedCouncils: every call that needs a sound council tells what Sound tells, ahead of its own refusals.
func TestRefusedCouncils(t *testing.T) {
	wrong := slices.Clone(wrongLists)
	for _, p := range []int64{7*6 + 1, -7*6 - 1, math.MaxInt64, math.MinInt64} {
		wrong = append(wrong, wrongLists[0])
		wrong[len(wrong)-1].what, wrong[len(wrong)-1].want = "a priority beyond", api.ErrArg
		wrong[len(wrong)-1].l = row{{1, 1, 0}, {2, 2, p}, {3, 3, 0}}.members()
	}
	for _, x := range wrong {
		c := api.Council{Members: x.l}
		wantErr(t, "P5.1: "+x.what, council.Sound(c), x.want)
		if council.Total(c) != 0 || council.Quorum(c) != 0 || council.Third(c) != 0 {
			t.Errorf("P5.3: %s: %d, %d, %d", x.what, council.Total(c), council.Quorum(c), council.Third(c))
		}
		for _, n := range []int{0, 1, -1, math.MaxInt, math.MinInt} {
			got, e := council.Turn(c, n)
			wantNothing(t, "P5.4: Turn of "+x.what, got, e, x.want)
			a, e := council.Proposer(c, n)
			wantErr(t, "P5.5: Proposer of "+x.what, e, x.want)
			if a != 0 {
				t.Errorf("P5.5: Proposer of %s: %d beside an error", x.what, a)
			}
		}
		for _, l := range [][]api.Member{nil, equals(65, 1), row{{0, 1, 0}}.members(), equals(3, 1)} {
			got, e := council.Renew(c, l)
			wantNothing(t, "P5.6: Renew of "+x.what, got, e, x.want)
		}
		h, e := council.Digest(c)
		wantErr(t, "P5.7: Digest of "+x.what, e, x.want)
		if h != (api.Hash{}) {
			t.Errorf("P5.7: Digest of %s: %x beside an error", x.what, h)
		}
	}
}

func wantPowers(t *testing.T, c api.Council, total, quorum, third uint64) {
	t.Helper()
	if council.Total(c) != total || council.Quorum(c) != quorum || council.Third(c) != third {
		t.Errorf("P5.3: %v: %d, %d, %d, want %d, %d, %d", c, council.Total(c), council.Quorum(c), council.Third(c), total, quorum, third)
	}
}

func TestPowers(t *testing.T) {
	wantPowers(t, row{{1, 1, 0}, {2, 2, 0}, {3, 3, 0}}.council(), 6, 5, 3)
	wantPowers(t, row{{1, 1, 7}, {2, 2, -42}, {3, 3, 42}}.council(), 6, 5, 3)
	wantPowers(t, row{{1, supply, 0}}.council(), 1<<60-1, 768614336404564651, 384307168202282326)
	wantPowers(t, row{{1, supply - 1, 0}}.council(), 1<<60-2, 768614336404564650, 384307168202282325)
	wantPowers(t, row{{1, supply - 3, 0}, {2, 1, 0}}.council(), 1<<60-3, 768614336404564649, 384307168202282325)
	wantPowers(t, row{{1, 1, 0}}.council(), 1, 1, 1)
	wantPowers(t, row{{1, 2, 0}}.council(), 2, 2, 1)
	wantPowers(t, row{{1, 3, 0}}.council(), 3, 3, 2)
	wantPowers(t, row{{1, 4, 0}}.council(), 4, 3, 2)
	r := rand.New(rand.NewSource(1))
	for range 2000 {
		c := someSound(r)
		total, quorum, third := modelTotal(c.Members), natural(council.Quorum(c)), natural(council.Third(c))
		if natural(council.Total(c)).Cmp(total) != 0 {
			t.Fatalf("P5.3: Total of %v: %d", c, council.Total(c))
		}
		isQuorum := times(3, quorum).Cmp(times(2, total)) > 0
		oneLess := times(3, less(quorum, whole(1))).Cmp(times(2, total)) > 0
		if !isQuorum || oneLess {
			t.Fatalf("P5.3: Quorum of %v: %d", c, quorum)
		}
		isThird := times(3, third).Cmp(total) > 0
		oneLess = times(3, less(third, whole(1))).Cmp(total) > 0
		if !isThird || oneLess {
			t.Fatalf("P5.3: Third of %v: %d", c, third)
		}
	}
}

func TestIndex(t *testing.T) {
	many := api.Council{Members: equals(1000, 0)}
	for _, x := range []struct {
		c    api.Council
		a    api.Addr
		want int
	}{
		{row{{1, 1, 0}, {2, 2, 0}, {3, 3, 0}}.council(), 1, 0},
		{row{{1, 1, 0}, {2, 2, 0}, {3, 3, 0}}.council(), 2, 1},
		{row{{1, 1, 0}, {2, 2, 0}, {3, 3, 0}}.council(), 3, 2},
		{row{{1, 1, 0}, {2, 2, 0}, {3, 3, 0}}.council(), 4, -1},
		{row{{1, 1, 0}, {2, 2, 0}, {3, 3, 0}}.council(), 0, -1},
		{row{{1, 1, 0}, {3, 3, 0}}.council(), 2, -1},
		{row{{1, 1, 0}, {-1, 3, 0}}.council(), math.MaxUint64, 1},
		{api.Council{}, 0, -1},
		{api.Council{}, 1, -1},
		{row{{9, 0, 0}, {0, 1, 0}, {9, 1, 8}, {0, 1, 0}, {2, 1, 0}}.council(), 9, 0},
		{row{{9, 0, 0}, {0, 1, 0}, {9, 1, 8}, {0, 1, 0}, {2, 1, 0}}.council(), 0, 1},
		{row{{9, 0, 0}, {0, 1, 0}, {9, 1, 8}, {0, 1, 0}, {2, 1, 0}}.council(), 2, 4},
		{many, 1000, 999},
		{many, 65, 64},
		{many, 1001, -1},
	} {
		if got := council.Index(x.c, x.a); got != x.want {
			t.Errorf("P5.3: Index of %d: %d, want %d", x.a, got, x.want)
		}
	}
}

// digestOf is the digest of members as the chapter's words say it.
func digestOf(l []api.Member) api.Hash {
	var items [][]byte
	for _, m := range l {
		item := binary.LittleEndian.AppendUint64(nil, uint64(m.Addr))
		items = append(items, binary.LittleEndian.AppendUint64(item, m.Power))
	}
	h, _ := digest.Root(items)
	return h
}

func TestDigest(t *testing.T) {
	for _, p := range [][3]int64{{0, 0, 0}, {1, 2, -3}, {42, -42, 42}} {
		c := row{{1, 1, p[0]}, {2, 2, p[1]}, {3, 3, p[2]}}.council()
		h, e := council.Digest(c)
		wantErr(t, "P5.7", e, api.OK)
		if hex.EncodeToString(h[:]) != "9ea9e1471a90580564835cc09693704afce6e9001b349577bca0bb67749e9381" {
			t.Errorf("P5.7: Digest of %v: %x", c, h)
		}
	}
	seen := map[api.Hash]int{}
	others := []row{
		{{1, 1, 0}}, {{1, 2, 0}}, {{2, 1, 0}}, {{1, 1, 0}, {2, 2, 0}}, {{1, 2, 0}, {2, 1, 0}}, {{1, 1, 0}, {2, 2, 0}, {3, 3, 0}},
		{{1, 256, 0}}, {{256, 1, 0}}, {{1, supply, 0}}, {{-1, 1, 0}}, {{-1, supply, 0}},
	}
	for _, x := range others {
		h, _ := council.Digest(x.council())
		seen[h]++
	}
	if len(seen) != len(others) {
		t.Errorf("P5.7: %d unlike councils have %d digests", len(others), len(seen))
	}
	r := rand.New(rand.NewSource(2))
	for range 200 {
		c := someSound(r)
		h, e := council.Digest(c)
		if e != api.OK || h != digestOf(c.Members) {
			t.Fatalf("P5.7: Digest of %v: %x, error %d", c, h, e)
		}
	}
}

// powerOf is the power of the members whose bits are set.
func powerOf(c api.Council, set int) (p uint64) {
	for k, m := range c.Members {
		if set>>k&1 == 1 {
			p += m.Power
		}
	}
	return p
}

func wantOverlaps(t *testing.T, c api.Council) {
	t.Helper()
	all := 1<<len(c.Members) - 1
	total, quorum, third := council.Total(c), council.Quorum(c), council.Third(c)
	for x := range all + 1 {
		if powerOf(c, all&^x) < third && powerOf(c, x) < total+1-third {
			t.Fatalf("P5.12: %v: those outside %b have less than a third, those in it too little", c, x)
		}
		for y := range all + 1 {
			if powerOf(c, x) >= quorum && powerOf(c, y) >= quorum && powerOf(c, x&y) < third {
				t.Fatalf("P5.12: %v: %b and %b are quorums, and have too little in common", c, x, y)
			}
		}
	}
}

func TestQuorumsOverlap(t *testing.T) {
	for n := range 6 {
		for power := range 12 {
			wantOverlaps(t, mustNew(t, equals(n+1, uint64(power+1))))
		}
	}
	wantOverlaps(t, mustNew(t, equals(5, supply/5)))
	r := rand.New(rand.NewSource(3))
	for range 100 {
		l := equals(1+r.Intn(6), 0)
		for k := range l {
			l[k].Power = 1 + uint64(r.Intn(20))
		}
		wantOverlaps(t, mustNew(t, l))
		for k, p := range somePowers(r, len(l)) {
			l[k].Power = p
		}
		wantOverlaps(t, mustNew(t, l))
	}
}

// TestAnything holds each call against the model, at councils and lists with anything wrong in them.
func TestAnything(t *testing.T) {
	r := rand.New(rand.NewSource(4))
	refused := map[api.Errno]int{}
	for range 20000 {
		c, l := api.Council{Members: someList(r)}, someList(r)
		sound, list := modelSound(c.Members), modelMembers(l)
		refused[sound]++
		wantErr(t, "P5.1: Sound", council.Sound(c), sound)
		made, e := council.New(l)
		wantErr(t, "P5.2: New", e, list)
		if (e != api.OK) != (made.Members == nil) {
			t.Errorf("P5.2: New of %v: %v, error %d", l, made, e)
		}
		_, e = council.Turn(c, r.Intn(3))
		wantErr(t, "P5.4: Turn", e, sound)
		_, e = council.Proposer(c, r.Intn(3))
		wantErr(t, "P5.5: Proposer", e, sound)
		_, e = council.Digest(c)
		wantErr(t, "P5.7: Digest", e, sound)
		want := sound
		if want == api.OK {
			want = list
		}
		_, e = council.Renew(c, l)
		wantErr(t, "P5.6: Renew", e, want)
		if t.Failed() {
			t.Fatalf("of %v and %v", c, l)
		}
	}
	for _, e := range []api.Errno{api.OK, api.ErrEmpty, api.ErrBig, api.ErrNobody, api.ErrDouble, api.ErrPower, api.ErrTotal, api.ErrArg} {
		if refused[e] == 0 {
			t.Errorf("none of the councils was one of error %d", e)
		}
	}
}
