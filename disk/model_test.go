package disk_test

import (
	"fmt"
	"maps"
	"math/rand"
	"slices"
	"testing"

	"scow/api"
	"scow/disk"
	"scow/vint"
)

// plain is a disk as the chapter's words have it, without a thought of how long it takes: the safe directory, the changes as what they do, the pending writes; a copy is made by doing all once more.
type plain struct {
	room    int
	safe    map[string]*plainFile
	changes []func(dir map[string]*plainFile)
	pending []plainWrite
	armed   bool
	first   int
	code    api.Errno
	past    []func(d *plain)
}

type plainFile struct{ sectors []string } // as they are safe

type plainWrite struct {
	f *plainFile
	n int
	p string
}

func newPlain(room int) *plain { return &plain{room: room, safe: map[string]*plainFile{}} }

func (d *plain) did(f func(d *plain)) { d.past = append(d.past, f) }

func (d *plain) after(changes int) map[string]*plainFile {
	dir := maps.Clone(d.safe)
	for _, c := range d.changes[:min(max(changes, 0), len(d.changes))] {
		c(dir)
	}
	return dir
}

func (d *plain) now() map[string]*plainFile { return d.after(len(d.changes)) }

func (d *plain) refuses() api.Errno {
	if !d.armed {
		return api.OK
	}
	if d.first > 0 {
		d.first--
		return api.OK
	}
	d.armed = false
	return d.code
}

// wrong is the first of the errors that apply.
func (d *plain) wrong(op, name string, refused api.Errno, tests ...any) error {
	if refused != api.OK {
		return &api.Fault{Op: op, Name: name, Err: refused}
	}
	for i := 0; i < len(tests); i += 2 {
		if tests[i].(func() bool)() {
			return &api.Fault{Op: op, Name: name, Err: tests[i+1].(api.Errno)}
		}
	}
	return nil
}

func (d *plain) none(name string) func() bool {
	return func() bool { return d.now()[name] == nil }
}

func plainNoName(name string) func() bool {
	return func() bool {
		for _, c := range []byte(name) {
			if !slices.Contains([]byte("abcdefghijklmnopqrstuvwxyz0123456789."), c) {
				return true
			}
		}
		return len(name) < 1 || len(name) > 16
	}
}

func (d *plain) Names() []string { return slices.Sorted(maps.Keys(d.now())) }

func (d *plain) Len(name string) (int, error) {
	if err := d.wrong("len", name, api.OK, d.none(name), api.ErrNone); err != nil {
		return 0, err
	}
	return len(d.now()[name].sectors), nil
}

func (d *plain) Create(name string) error {
	d.did(func(d *plain) { d.Create(name) })
	err := d.wrong("create", name, d.refuses(), plainNoName(name), api.ErrArg, func() bool { return d.now()[name] != nil }, api.ErrThere, func() bool { return len(d.now()) == 8 }, api.ErrMany)
	if err == nil {
		f := &plainFile{}
		d.changes = append(d.changes, func(dir map[string]*plainFile) { dir[name] = f })
	}
	return err
}

func (d *plain) Remove(name string) error {
	d.did(func(d *plain) { d.Remove(name) })
	err := d.wrong("remove", name, d.refuses(), d.none(name), api.ErrNone)
	if err == nil {
		d.changes = append(d.changes, func(dir map[string]*plainFile) { delete(dir, name) })
	}
	return err
}

func (d *plain) Rename(from, to string) error {
	d.did(func(d *plain) { d.Rename(from, to) })
	err := d.wrong("rename", from, d.refuses(), d.none(from), api.ErrNone, plainNoName(to), api.ErrArg)
	if err == nil {
		d.changes = append(d.changes, func(dir map[string]*plainFile) {
			if from != to {
				dir[to] = dir[from]
				delete(dir, from)
			}
		})
	}
	return err
}

func (d *plain) Grow(name string, n int) error {
	d.did(func(d *plain) { d.Grow(name, n) })
	err := d.wrong("grow", name, d.refuses(), d.none(name), api.ErrNone, func() bool { return n < len(d.now()[name].sectors) || n > 4096 }, api.ErrArg, func() bool {
		all := n
		for other, f := range d.now() {
			if other != name {
				all += len(f.sectors)
			}
		}
		return all > d.room
	}, api.ErrFull)
	if err == nil {
		for f := d.now()[name]; len(f.sectors) < n; {
			f.sectors = append(f.sectors, string(make([]byte, 64)))
		}
	}
	return err
}

func (d *plain) noSector(name string, n int) func() bool {
	return func() bool { return n < 0 || n > len(d.now()[name].sectors)-1 }
}

func (d *plain) Write(name string, n int, p []byte) error {
	text := string(p)
	d.did(func(d *plain) { d.Write(name, n, []byte(text)) })
	err := d.wrong("write", name, d.refuses(), d.none(name), api.ErrNone, d.noSector(name, n), api.ErrSector, func() bool { return len(text) != 64 }, api.ErrArg)
	if err == nil {
		d.pending = append(d.pending, plainWrite{d.now()[name], n, text})
	}
	return err
}

func (d *plain) Read(name string, n int) ([]byte, error) {
	d.did(func(d *plain) { d.Read(name, n) })
	if err := d.wrong("read", name, d.refuses(), d.none(name), api.ErrNone, d.noSector(name, n), api.ErrSector); err != nil {
		return nil, err
	}
	f := d.now()[name]
	text := f.sectors[n]
	for _, w := range d.pending {
		if w.f == f && w.n == n {
			text = w.p
		}
	}
	return []byte(text), nil
}

func (d *plain) Sync(name string) error {
	d.did(func(d *plain) { d.Sync(name) })
	err := d.wrong("sync", name, d.refuses(), d.none(name), api.ErrNone)
	if err == nil {
		f, rest := d.now()[name], []plainWrite(nil)
		for _, w := range d.pending {
			if w.f != f {
				rest = append(rest, w)
				continue
			}
			f.sectors[w.n] = w.p
		}
		d.pending = rest
	}
	return err
}

func (d *plain) SyncDir() error {
	d.did(func(d *plain) { d.SyncDir() })
	err := d.wrong("syncdir", "", d.refuses())
	if err == nil {
		d.safe, d.changes = d.now(), nil
	}
	return err
}

func (d *plain) Arm(after int, code api.Errno) {
	d.did(func(d *plain) { d.Arm(after, code) })
	d.armed, d.first, d.code = after >= 0 && (code == 41 || code == 42), after, code
}

func (d *plain) Pending() (int, int) { return len(d.pending), len(d.changes) }

func (d *plain) Crash(changes int, keep ...int) {
	keep = slices.Clone(keep)
	d.did(func(d *plain) { d.Crash(changes, keep...) })
	d.safe, d.changes = d.after(changes), nil
	for i, w := range d.pending {
		if slices.Contains(keep, i) {
			w.f.sectors[w.n] = w.p
		}
	}
	d.pending, d.armed = nil, false
}

func (d *plain) Copy() *plain {
	c := newPlain(d.room)
	for _, f := range d.past {
		f(c)
	}
	return c
}

func (d *plain) Save() []byte {
	var b []byte
	for _, name := range slices.Sorted(maps.Keys(d.safe)) {
		b = append(append(b, vint.PutBytes([]byte(name))...), vint.Put(uint64(len(d.safe[name].sectors)))...)
		for _, s := range d.safe[name].sectors {
			b = append(b, s...)
		}
	}
	return b
}

// step does one thing, by chance, to d, and tells what it answered.
func step[T calls[T]](r *rand.Rand, d T) string {
	names := []string{"a", "b", "c", "a", "b", "d.e", "f", "g", "h", "i", "j", "A", ""}
	name, to := names[r.Intn(len(names))], names[r.Intn(len(names))]
	n := r.Intn(6) - 1
	p := sec(byte(r.Intn(256)))
	if r.Intn(20) == 0 {
		p = p[:r.Intn(64)]
	}
	after, code := r.Intn(6)-2, api.Errno(40+r.Intn(4))
	changes, keep := r.Intn(8)-1, make([]int, r.Intn(6))
	for i := range keep {
		keep[i] = r.Intn(12) - 1
	}
	switch r.Intn(40) {
	case 0, 1, 2, 3, 4:
		return fmt.Sprint("create ", name, d.Create(name))
	case 5, 6, 7:
		return fmt.Sprint("remove ", name, d.Remove(name))
	case 8, 9, 10, 11:
		return fmt.Sprint("rename ", name, to, d.Rename(name, to))
	case 12, 13, 14, 15, 16, 17:
		return fmt.Sprint("grow ", name, n, d.Grow(name, n))
	case 18, 19, 20, 21, 22, 23, 24, 25, 26, 27, 28, 29:
		return fmt.Sprint("write ", name, n, len(p), d.Write(name, n, p))
	case 30:
		b, err := d.Read(name, n)
		return fmt.Sprint("read ", name, n, b, err)
	case 31, 32, 33:
		return fmt.Sprint("sync ", name, d.Sync(name))
	case 34, 35:
		return fmt.Sprint("syncdir ", d.SyncDir())
	case 36, 37:
		d.Arm(after, code)
		return fmt.Sprint("arm ", after, code)
	case 38:
		size, err := d.Len(name)
		return fmt.Sprint("len ", name, size, err)
	}
	d.Crash(changes, keep...)
	return fmt.Sprint("crash ", changes, keep)
}

// P4.1 to P4.6, P4.9: whatever is done, a disk answers, and is, what the plain one is.
func TestAsThePlainOne(t *testing.T) {
	for seed := range int64(150) {
		room := int(seed % 12)
		d, p := made(t, room), newPlain(room)
		one, two := rand.New(rand.NewSource(seed)), rand.New(rand.NewSource(seed))
		var story string
		for i := range 120 {
			did := step(one, d)
			story += did + "\n"
			if want := step(two, p); did != want {
				t.Fatalf("seed %d: %s, not %s, behind\n%s", seed, did, want, story)
			}
			if i%10 == 9 {
				if is, want := look(d), look(p); is != want {
					t.Fatalf("seed %d: it is\n%s, not\n%s, behind\n%s", seed, is, want, story)
				}
			}
		}
	}
}

// P4.8: copies that are done the same are the same, and none has a part in what is done to another.
func TestCopiesGoTheirOwnWays(t *testing.T) {
	for seed := range int64(60) {
		d := made(t, 8)
		r := rand.New(rand.NewSource(seed))
		for range 60 {
			step(r, d)
		}
		was := look(d)
		one, two, other := d.Copy(), d.Copy(), d.Copy()
		for i := range int64(40) {
			step(rand.New(rand.NewSource(1000*seed+i)), other)
			a, b := step(rand.New(rand.NewSource(i)), one), step(rand.New(rand.NewSource(i)), two)
			if a != b {
				t.Fatalf("seed %d: %s, but the other copy %s", seed, a, b)
			}
		}
		if look(one) != look(two) {
			t.Fatalf("seed %d: copies that were done the same are not the same", seed)
		}
		if look(d) != was {
			t.Fatalf("seed %d: what was done to copies was done to the disk", seed)
		}
		own := look(one)
		for i := range int64(40) {
			step(rand.New(rand.NewSource(i)), d)
		}
		if look(d) != own || look(one) != own {
			t.Fatalf("seed %d: the disk, done the same, is not as its copies", seed)
		}
	}
}

// P4.10: what is loaded of what was saved is as the disk is behind a crash that keeps nothing.
func TestLoadedIsAsCrashed(t *testing.T) {
	loaded := 0
	for seed := range int64(200) {
		d := made(t, 12)
		r := rand.New(rand.NewSource(seed))
		for range 5 + r.Intn(80) {
			step(r, d)
		}
		was := look(d)
		back, err := disk.Load(12, d.Save())
		if look(d) != was {
			t.Fatalf("seed %d: Save changed the disk", seed)
		}
		d.Crash(0)
		if err != nil { // files that came back may have more sectors than there is room
			if n := len(d.Save()) / 64; api.Code(err) != api.ErrFull || n <= 12 {
				t.Fatalf("seed %d: %v of %d sectors", seed, err, n)
			}
			continue
		}
		if len(back.Names()) > 0 {
			loaded++
		}
		if look(back) != look(d) {
			t.Fatalf("seed %d: loaded\n%s, crashed\n%s", seed, look(back), look(d))
		}
		for i := range int64(30) {
			a, b := step(rand.New(rand.NewSource(i)), back), step(rand.New(rand.NewSource(i)), d)
			if a != b || look(back) != look(d) {
				t.Fatalf("seed %d: %s, but %s", seed, a, b)
			}
		}
	}
	if loaded < 50 {
		t.Errorf("only %d disks had a file", loaded)
	}
}

// P4.7: behind whatever crash what was synced is as it was, and each sector is one of those that it might be.
func TestWhatIsSafe(t *testing.T) {
	for seed := range int64(100) {
		r := rand.New(rand.NewSource(seed))
		d := with(t, 9, 4)
		done(t, d.Create("b"), d.Grow("b", 4), d.SyncDir())
		might := map[string][]string{} // of each sector, as it is safe, and behind that its pending writes
		for _, name := range []string{"a", "b"} {
			for n := range 4 {
				might[fmt.Sprint(name, n)] = []string{string(make([]byte, 64))}
			}
		}
		for i := range 60 {
			name, n, p := []string{"a", "b"}[r.Intn(2)], r.Intn(4), sec(byte(i+1))
			if r.Intn(5) == 0 {
				done(t, d.Sync(name))
				for n := range 4 {
					at := fmt.Sprint(name, n)
					might[at] = might[at][len(might[at])-1:]
				}
				continue
			}
			done(t, d.Write(name, n, p))
			at := fmt.Sprint(name, n)
			might[at] = append(might[at], string(p))
			c, keep := d.Copy(), r.Perm(20)[:r.Intn(20)]
			c.Crash(r.Intn(3)-1, keep...)
			for at, texts := range might {
				got, err := c.Read(at[:1], int(at[1]-'0'))
				if err != nil || !slices.Contains(texts, string(got)) {
					t.Fatalf("seed %d: sector %s behind a crash: %x, %v", seed, at, got, err)
				}
			}
		}
	}
}
