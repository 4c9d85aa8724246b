package disk_test

import (
	"math/rand"
	"slices"
	"sort"
	"strings"
	"testing"

	"assent/api"
	"assent/disk"
)

// sheet is a file as the model has it: two texts, of which the first survives.
type sheet struct{ name, safe, loose string }

// model is a disk by another hand: a list of sheets by rising name, and the troubles in the order in which they were armed.
type model struct {
	limit  int
	sheets []sheet
	calls  int
	armed  []api.Trouble // At is the number of the call
	off    bool
}

func (m *model) at(name string) int {
	return slices.IndexFunc(m.sheets, func(s sheet) bool { return s.name == name })
}

func (m *model) used() (n int) {
	for _, s := range m.sheets {
		n += len(s.safe + s.loose)
	}
	return n
}

// set lays a sheet down in the place of the one with its name.
func (m *model) set(s sheet) {
	m.unset(s.name)
	m.sheets = append(m.sheets, s)
	sort.Slice(m.sheets, func(i, j int) bool { return m.sheets[i].name < m.sheets[j].name })
}

func (m *model) unset(name string) {
	m.sheets = slices.DeleteFunc(m.sheets, func(s sheet) bool { return s.name == name })
}

// act is a numbered call, for both hands.
type act struct {
	kind, name, bytes string
	n                 int
}

func (a act) on(d *disk.Disk) api.Errno {
	switch a.kind {
	case "append":
		return d.Append(a.name, []byte(a.bytes))
	case "sync":
		return d.Sync(a.name)
	case "replace":
		return d.Replace(a.name, []byte(a.bytes))
	case "cut":
		return d.Cut(a.name, a.n)
	}
	return d.Remove(a.name)
}

// refusal is the error, ahead of any trouble, of a call.
func (m *model) refusal(a act) api.Errno {
	if m.off {
		return api.ErrOff
	}
	if len(a.name) == 0 || len(a.name) > 32 || strings.Trim(a.name, "abcdefghijklmnopqrstuvwxyz0123456789-.") != "" {
		return api.ErrName
	}
	k, has := m.at(a.name), 0
	if k >= 0 {
		has = len(m.sheets[k].safe + m.sheets[k].loose)
	}
	switch {
	case a.kind == "append" && m.used()+len(a.bytes) > m.limit, a.kind == "replace" && m.used()-has+len(a.bytes) > m.limit:
		return api.ErrFull
	case a.kind == "append" || a.kind == "replace":
		return api.OK
	case k < 0:
		return api.ErrNoFile
	case a.kind == "cut" && (a.n < 0 || a.n > has):
		return api.ErrArg
	}
	return api.OK
}

func (m *model) do(a act) {
	s := sheet{name: a.name}
	if k := m.at(a.name); k >= 0 {
		s = m.sheets[k]
	}
	switch a.kind {
	case "append":
		m.set(sheet{s.name, s.safe, s.loose + a.bytes})
	case "sync":
		m.set(sheet{s.name, s.safe + s.loose, ""})
	case "replace":
		m.set(sheet{s.name, a.bytes, ""})
	case "cut":
		m.set(sheet{s.name, (s.safe + s.loose)[:a.n], ""})
	case "remove":
		m.unset(s.name)
	}
}

func (m *model) call(a act) api.Errno {
	if e := m.refusal(a); e != api.OK {
		return e
	}
	m.calls++
	for _, t := range m.armed {
		switch {
		case t.At != m.calls:
		case t.Kind == api.TrFault:
			return api.ErrFault
		case t.Kind == api.TrPower:
			if t.Done {
				m.do(a)
			}
			m.off = true
			return api.ErrOff
		}
	}
	m.do(a)
	return api.OK
}

func (m *model) crash(keep []int, junk byte) (im api.Image) {
	for k, s := range m.sheets {
		b := []byte(s.safe)
		for n := range len(s.loose) {
			if k < len(keep) && n < keep[k] {
				b = append(b, s.loose[n])
				if n == keep[k]-1 || n == len(s.loose)-1 {
					b[len(b)-1] ^= junk
				}
			}
		}
		im.Files = append(im.Files, api.File{Name: s.name, Bytes: b})
	}
	return im
}

// wantAs: the disk answers all that it is asked as the model.
func (m *model) wantAs(t *testing.T, d *disk.Disk) {
	t.Helper()
	wantCalls(t, "model", d, m.calls)
	if d.On() == m.off {
		t.Errorf("model: On is %v", d.On())
	}
	if m.off {
		wantNames(t, "model: off", d)
		return
	}
	var names []string
	for _, s := range m.sheets {
		names = append(names, s.name)
		wantRead(t, "model", d, s.name, s.safe+s.loose)
		wantSize(t, "model", d, s.name, len(s.safe+s.loose), len(s.safe))
	}
	wantNames(t, "model", d, names...)
}

func someBytes(r *rand.Rand) string {
	b := make([]byte, r.Intn(7))
	r.Read(b)
	return string(b)
}

func someAct(r *rand.Rand) act {
	kinds := []string{"append", "append", "append", "sync", "replace", "cut", "remove"}
	names := []string{"a", "b", "c", "a", "b", "c", "a.b", "ab", "", "A", strings.Repeat("c", 33)}
	return act{kinds[r.Intn(len(kinds))], names[r.Intn(len(names))], someBytes(r), r.Intn(14) - 2}
}

func someTrouble(r *rand.Rand) api.Trouble {
	tr := api.Trouble{At: 1 + r.Intn(12), Kind: api.TrFault}
	if r.Intn(3) == 0 {
		tr.Kind, tr.Done = api.TrPower, r.Intn(2) == 0
	}
	return tr
}

func someKeep(r *rand.Rand) []int {
	keep := make([]int, r.Intn(6))
	for k := range keep {
		keep[k] = r.Intn(14) - 3
	}
	return keep
}

// TestModel holds the disk against the model: calls and troubles by chance, crashes, and mounts of what they left.
func TestModel(t *testing.T) {
	r := rand.New(rand.NewSource(6))
	for range 400 {
		limit := 1 + r.Intn(60)
		d, m := newDisk(t, limit), &model{limit: limit}
		for range 1 + r.Intn(5) {
			playBoth(t, r, d, m)
			keep, junk := someKeep(r), byte(r.Intn(4))
			im, e := d.Crash(keep, junk)
			left := m.crash(keep, junk)
			if e != api.OK || told(im) != told(left) {
				t.Fatalf("D10: Crash(%v, %d) leaves %q, error %d, want %q", keep, junk, told(im), e, told(left))
			}
			d, m = mount(t, im, limit), &model{limit: limit}
			for _, f := range left.Files {
				m.set(sheet{name: f.Name, safe: string(f.Bytes)})
			}
			m.wantAs(t, d)
		}
		if t.Failed() {
			return
		}
	}
}

func playBoth(t *testing.T, r *rand.Rand, d *disk.Disk, m *model) {
	t.Helper()
	for range r.Intn(40) {
		if r.Intn(6) == 0 {
			tr, e := someTrouble(r), api.OK
			if m.off {
				e = api.ErrOff
			}
			want(t, "model: Arm", d.Arm(tr), e)
			tr.At += m.calls
			m.armed = append(m.armed, tr)
		}
		a := someAct(r)
		if got, e := a.on(d), m.call(a); got != e {
			t.Fatalf("model: %#v: error %d, want %d", a, got, e)
		}
		m.wantAs(t, d)
	}
}

// seen is what a disk shows of a file.
type seen struct {
	bytes  string
	synced int
}

func look(d *disk.Disk) map[string]seen {
	all := map[string]seen{}
	for _, name := range d.Names() {
		b, _ := d.Read(name)
		_, s, _ := d.Size(name)
		all[name] = seen{string(b), s}
	}
	return all
}

// TestSurvives: P6.1, held against what the disk itself has shown just ahead of the crash.
func TestSurvives(t *testing.T) {
	r := rand.New(rand.NewSource(61))
	for range 1000 {
		d := newDisk(t, 40)
		for range r.Intn(20) {
			someAct(r).on(d)
		}
		was := look(d)
		im, e := d.Crash(someKeep(r), 1)
		want(t, "P6.1", e, api.OK)
		if len(im.Files) != len(was) {
			t.Fatalf("P6.1: %d files, and there were %d", len(im.Files), len(was))
		}
		for _, f := range im.Files {
			w, n := was[f.Name], len(f.Bytes)
			if n < w.synced || n > len(w.bytes) || string(f.Bytes[:w.synced]) != w.bytes[:w.synced] {
				t.Fatalf("P6.1: %s is %q, synced were %d of %q", f.Name, f.Bytes, w.synced, w.bytes)
			}
			if n > w.synced && (string(f.Bytes[:n-1]) != w.bytes[:n-1] || f.Bytes[n-1] != w.bytes[n-1]^1) {
				t.Fatalf("P6.1: behind the synced %d of %q stands %q", w.synced, w.bytes, f.Bytes)
			}
		}
	}
}

// TestSyncedIsSafe: P6.2, over crashes and mounts: safe is what each file held when it was made durable last.
func TestSyncedIsSafe(t *testing.T) {
	r := rand.New(rand.NewSource(62))
	for range 300 {
		d, safe := newDisk(t, 60), map[string]string{}
		for range 6 {
			for range r.Intn(15) {
				if r.Intn(8) == 0 {
					d.Arm(someTrouble(r))
				}
				noteSafe(d, someAct(r), safe)
			}
			im, e := d.Crash(someKeep(r), byte(r.Intn(3)))
			want(t, "P6.2", e, api.OK)
			holds := map[string]string{}
			for _, f := range im.Files {
				holds[f.Name] = string(f.Bytes)
			}
			for name, s := range safe {
				if b, there := holds[name]; !there || !strings.HasPrefix(b, s) {
					t.Fatalf("P6.2: %s held %q when it was synced, and now %q", name, s, b)
				}
			}
			d = mount(t, im, 60)
		}
	}
}

// noteSafe does an act, and keeps in safe what P6.2 says of it.
func noteSafe(d *disk.Disk, a act, safe map[string]string) {
	on := d.On()
	e := a.on(d)
	done := e == api.OK || on && e == api.ErrOff
	if done && (a.kind == "replace" || a.kind == "remove" || a.kind == "cut" && a.n < len(safe[a.name])) {
		delete(safe, a.name)
	}
	if e == api.OK && a.kind != "append" && a.kind != "remove" {
		b, _ := d.Read(a.name)
		safe[a.name] = string(b)
	}
}

// TestAsIfNotMade: P6.4: two disks take the same calls, but into one of them calls are thrown that a fault refuses.
func TestAsIfNotMade(t *testing.T) {
	r := rand.New(rand.NewSource(64))
	for range 300 {
		d, plain := newDisk(t, 40), newDisk(t, 40)
		for range r.Intn(30) {
			if r.Intn(2) == 0 {
				want(t, "P6.4: Arm", d.Arm(api.Trouble{At: 1, Kind: api.TrFault}), api.OK)
				for someAct(r).on(d) != api.ErrFault {
					// It was refused otherwise, and the fault waits for the next one.
				}
			}
			a := someAct(r)
			if got, e := a.on(d), a.on(plain); got != e {
				t.Fatalf("P6.4: %#v: error %d, want %d", a, got, e)
			}
			if got, e := look(d), look(plain); !sameLook(got, e) {
				t.Fatalf("P6.4: %#v, want %#v", got, e)
			}
		}
		keep := someKeep(r)
		im, _ := d.Crash(keep, 1)
		wantLeft(t, "P6.4", plain, keep, 1, told(im))
	}
}

func sameLook(a, b map[string]seen) bool {
	for name := range a {
		if a[name] != b[name] {
			return false
		}
	}
	return len(a) == len(b)
}

// TestThereAndBack: P6.5, with a limit that just holds it.
func TestThereAndBack(t *testing.T) {
	r := rand.New(rand.NewSource(65))
	for range 300 {
		d := newDisk(t, 60)
		for range r.Intn(30) {
			someAct(r).on(d)
		}
		im, e := d.Crash(someKeep(r), byte(r.Intn(256)))
		want(t, "P6.5", e, api.OK)
		used := 0
		for _, f := range im.Files {
			used += len(f.Bytes)
		}
		back := mount(t, im, max(used, 1))
		wantMounted(t, back, im)
		wantLeft(t, "P6.5", back, someKeep(r), byte(r.Intn(256)), told(im))
		if used > 1 {
			if d, e := disk.Mount(im, used-1); d != nil || e != api.ErrFull {
				t.Errorf("P6.5: a limit that does not hold it: %v, error %d", d, e)
			}
		}
	}
}
