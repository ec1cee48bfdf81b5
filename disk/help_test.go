package disk_test

import (
	"bytes"
	"fmt"
	"slices"
	"strings"
	"testing"

	"scow/api"
	"scow/disk"
)

// calls are what a disk is asked, and what the plain model of one is asked too.
type calls[T any] interface {
	Names() []string
	Len(name string) (int, error)
	Create(name string) error
	Remove(name string) error
	Rename(from, to string) error
	Grow(name string, n int) error
	Write(name string, n int, p []byte) error
	Read(name string, n int) ([]byte, error)
	Sync(name string) error
	SyncDir() error
	Arm(after int, code api.Errno)
	Pending() (int, int)
	Crash(changes int, keep ...int)
	Copy() T
	Save() []byte
}

// sec is a sector of that byte.
func sec(c byte) []byte {
	return bytes.Repeat([]byte{c}, api.SectorSize)
}

// brief is a sector as a short text: the one byte that all of it is, or all of it.
func brief(p []byte) string {
	if len(p) == api.SectorSize && len(slices.Compact(slices.Clone(p))) == 1 {
		return fmt.Sprintf("%x", p[:1])
	}
	return fmt.Sprintf("%x", p)
}

// files are the directory now with all sectors: "a 78 00; b" are a file a of two, and an empty b. It disarms d.
func files[T calls[T]](d T) string {
	d.Arm(-1, api.OK)
	var l []string
	for _, name := range d.Names() {
		text := name
		n, err := d.Len(name)
		for i := 0; i < n && err == nil; i++ {
			var p []byte
			p, err = d.Read(name, i)
			text += " " + brief(p)
		}
		if err != nil {
			text += " " + err.Error()
		}
		l = append(l, text)
	}
	return strings.Join(l, "; ")
}

// crashed are the files of a copy of d behind a crash, and what is pending if anything is.
func crashed[T calls[T]](d T, changes int, keep ...int) string {
	c := d.Copy()
	c.Crash(changes, keep...)
	text := files(c)
	if n, k := c.Pending(); n != 0 || k != 0 {
		text += fmt.Sprint(" pending ", n, k)
	}
	return text
}

// look tells all of d that calls may show, without changing it: what is now, how it is armed, what is behind each crash (of the writes that are kept: none, all, each single one, all but one).
func look[T calls[T]](d T) string {
	writes, changes := d.Pending()
	l := []string{files(d.Copy()), fmt.Sprintf("saved %x, pending %d, %d", d.Save(), writes, changes)}
	c := d.Copy()
	for i := range 6 {
		if err := c.SyncDir(); err != nil {
			l = append(l, fmt.Sprint("armed ", i, err))
		}
	}
	all := places(writes)
	for k := range changes + 1 {
		l = append(l, crashed(d, k), crashed(d, k, all...))
	}
	for i := range writes {
		l = append(l, crashed(d, changes, i), crashed(d, changes, slices.Concat(all[:i], all[i+1:])...))
	}
	return strings.Join(l, "\n")
}

// places are 0 to n - 1.
func places(n int) []int {
	var l []int
	for i := range n {
		l = append(l, i)
	}
	return l
}

// made is a new disk of so many sectors.
func made(t *testing.T, room int) *disk.Disk {
	t.Helper()
	d, err := disk.New(room)
	if err != nil || d == nil {
		t.Fatalf("New(%d): %v, %v", room, d, err)
	}
	return d
}

// with is a new disk with a file a of so many sectors, all safe.
func with(t *testing.T, room, n int) *disk.Disk {
	t.Helper()
	d := made(t, room)
	done(t, d.Create("a"), d.Grow("a", n), d.SyncDir())
	return d
}

// done fails if one of the calls answered an error.
func done(t *testing.T, errs ...error) {
	t.Helper()
	for i, err := range errs {
		if err != nil {
			t.Fatalf("call %d: %v", i, err)
		}
	}
}

// faulty fails unless err is that Fault, and nothing around it.
func faulty(t *testing.T, err error, op, name string, want api.Errno) {
	t.Helper()
	f, ok := err.(*api.Fault)
	if !ok || f == nil {
		t.Fatalf("%s %q: %v is no Fault with error %d", op, name, err, want)
	}
	if f.Op != op || f.Name != name || f.Err != error(want) || api.Code(err) != want {
		t.Fatalf("%s %q: %+v, not error %d", op, name, *f, want)
	}
}

// pending fails unless so many writes are pending, and so many changes lie between.
func pending(t *testing.T, d *disk.Disk, writes, changes int) {
	t.Helper()
	if w, c := d.Pending(); w != writes || c != changes {
		t.Errorf("pending: %d, %d, not %d, %d", w, c, writes, changes)
	}
}

// shows fails unless the files of d are these.
func shows(t *testing.T, d *disk.Disk, want string) {
	t.Helper()
	if is := files(d.Copy()); is != want {
		t.Errorf("%s, not %s", is, want)
	}
}

// behind fails unless those are the files behind a crash.
func behind(t *testing.T, d *disk.Disk, want string, changes int, keep ...int) {
	t.Helper()
	if is := crashed(d, changes, keep...); is != want {
		t.Errorf("behind a crash (%d, %v): %s, not %s", changes, keep, is, want)
	}
}

// call is one of the eight calls that an armed disk counts, with its arguments, and the Fault's words.
type call struct {
	op, name string
	do       func(d *disk.Disk) error
}

func create(name string) call {
	return call{"create", name, func(d *disk.Disk) error { return d.Create(name) }}
}

func remove(name string) call {
	return call{"remove", name, func(d *disk.Disk) error { return d.Remove(name) }}
}

func rename(from, to string) call {
	return call{"rename", from, func(d *disk.Disk) error { return d.Rename(from, to) }}
}

func grow(name string, n int) call {
	return call{"grow", name, func(d *disk.Disk) error { return d.Grow(name, n) }}
}

func write(name string, n int, p []byte) call {
	return call{"write", name, func(d *disk.Disk) error { return d.Write(name, n, p) }}
}

func read(name string, n int) call {
	return call{"read", name, func(d *disk.Disk) error {
		p, err := d.Read(name, n)
		if err != nil && p != nil {
			return fmt.Errorf("Read tells %x and %v", p, err)
		}
		return err
	}}
}

func sync(name string) call {
	return call{"sync", name, func(d *disk.Disk) error { return d.Sync(name) }}
}

func syncDir() call {
	return call{"syncdir", "", func(d *disk.Disk) error { return d.SyncDir() }}
}

// refused fails unless the call answers that error, and has done nothing.
func (c call) refused(t *testing.T, d *disk.Disk, want api.Errno) {
	t.Helper()
	was := look(d)
	faulty(t, c.do(d), c.op, c.name, want)
	if is := look(d); is != was {
		t.Fatalf("%s %q with error %d has done something:\n%s\nwas\n%s", c.op, c.name, want, is, was)
	}
}

// answers fails unless the call answers that error.
func (c call) answers(t *testing.T, d *disk.Disk, want api.Errno) {
	t.Helper()
	faulty(t, c.do(d), c.op, c.name, want)
}
