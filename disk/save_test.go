package disk_test

import (
	"bytes"
	"fmt"
	"math"
	"math/rand"
	"slices"
	"strings"
	"testing"

	"scow/api"
	"scow/disk"
	"scow/vint"
)

// load is the disk that is loaded of b.
func load(t *testing.T, room int, b []byte) *disk.Disk {
	t.Helper()
	d, err := disk.Load(room, b)
	if err != nil || d == nil {
		t.Fatalf("Load(%d, %d bytes): %v, %v", room, len(b), d, err)
	}
	return d
}

// notLoaded fails unless Load answers that error.
func notLoaded(t *testing.T, room int, b []byte, want api.Errno) {
	t.Helper()
	d, err := disk.Load(room, b)
	if d != nil {
		t.Errorf("Load(%d, %.80x) tells a disk", room, b)
	}
	faulty(t, err, "load", "", want)
}

// saved is a file's bytes in a Save: by hand.
func saved(name string, n int, fill ...byte) []byte {
	b := append(vint.PutBytes([]byte(name)), vint.Put(uint64(n))...)
	for i := range n {
		b = append(b, sec(fill[i%len(fill)])...)
	}
	return b
}

// P4.9: Save tells what is safe, names rising: not what is pending, nor what lies between.
func TestSave(t *testing.T) {
	d := made(t, 200)
	if b := d.Save(); len(b) != 0 {
		t.Errorf("%x", b)
	}
	done(t, d.Create("b"), d.Create("a"), d.Create("long.name.0123z"), d.Grow("b", 2), d.Grow("long.name.0123z", 130), d.Write("b", 1, sec('x')))
	if b := d.Save(); len(b) != 0 {
		t.Errorf("nothing is safe: %x", b)
	}
	done(t, d.SyncDir())
	rest := saved("long.name.0123z", 130, 0)
	if b, want := d.Save(), slices.Concat([]byte{1, 'a', 0, 1, 'b', 2}, make([]byte, 128), rest); !bytes.Equal(b, want) {
		t.Errorf("%.200x, not %.200x", b, want)
	}
	done(t, d.Sync("b"), d.Write("b", 1, sec('y')), d.Remove("a"), d.Rename("b", "c"), d.Create("d"), d.Grow("c", 3))
	want := slices.Concat([]byte{1, 'a', 0, 1, 'b', 3}, make([]byte, 64), sec('x'), make([]byte, 64), rest)
	if b := d.Save(); !bytes.Equal(b, want) {
		t.Errorf("%.200x, not %.200x", b, want)
	}
	d.Crash(1)
	if b := d.Save(); !bytes.Equal(b, want[3:]) {
		t.Errorf("behind a crash: %.200x", b)
	}
	if rest[16] != 130 || rest[17] != 1 {
		t.Error("130 sectors are told in two bytes")
	}
}

// P4.9: Load's errors, in their order.
func TestLoadErrors(t *testing.T) {
	good := slices.Concat(saved("a", 2, 1), saved("b", 1, 2))
	for _, room := range []int{math.MinInt, -1, api.MaxSectors + 1, math.MaxInt} {
		notLoaded(t, room, nil, api.ErrArg)
		notLoaded(t, room, good, api.ErrArg)
		notLoaded(t, room, []byte{9}, api.ErrArg)
	}
	for room := range 3 {
		notLoaded(t, room, good, api.ErrFull)
		notLoaded(t, room, append(slices.Clone(good), 1), api.ErrSaved) // ahead of ErrFull
	}
	for _, room := range []int{3, 4, api.MaxSectors} {
		if d := load(t, room, good); !bytes.Equal(d.Save(), good) {
			t.Errorf("Save of what was loaded: %x", d.Save())
		}
	}
	d := load(t, 0, nil)
	if look(d) != look(made(t, 0)) {
		t.Error("a disk of no bytes is another one")
	}
	faulty(t, load(t, 5, good).Grow("a", 5), "grow", "a", api.ErrFull) // the room is the one that was told
	done(t, load(t, 5, good).Grow("a", 4))
	done(t, load(t, 0, saved("a", 0)).Create("b"))
}

// P4.9: of every beginning of a Save just those that end behind a file are one.
func TestLoadBeginnings(t *testing.T) {
	var b []byte
	ends := []int{0}
	for i, n := range []int{1, 0, 3, 2} {
		b = append(b, saved(fmt.Sprint("n", i), n, byte(i), 'n', 2)...)
		ends = append(ends, len(b))
	}
	for k := range len(b) + 1 {
		if slices.Contains(ends, k) {
			if d := load(t, 9, b[:k]); !bytes.Equal(d.Save(), b[:k]) {
				t.Errorf("the first %d bytes: %x", k, d.Save())
			}
			continue
		}
		notLoaded(t, 9, b[:k], api.ErrSaved)
	}
}

// P4.9: bytes that are no disk.
func TestLoadOfNoDisk(t *testing.T) {
	a, nine := saved("a", 1, 1), []byte(nil)
	for i := range api.MaxFiles + 1 {
		if i == api.MaxFiles {
			load(t, 0, nine)
		}
		nine = append(nine, saved(fmt.Sprint("f", i), 0)...)
	}
	for why, b := range map[string][]byte{
		"a name of no bytes":          saved("", 0),
		"a name that is too long":     saved(strings.Repeat("a", 17), 0),
		"a name far too long":         saved(strings.Repeat("a", 300), 0),
		"a capital letter":            saved("A", 0),
		"a sign":                      saved("a/b", 0),
		"a byte above all signs":      saved("a\xff", 0),
		"a letter of two bytes":       saved("é", 0),
		"the same name twice":         slices.Concat(a, a),
		"names that fall":             slices.Concat(saved("b", 0), a),
		"names that rise and fall":    slices.Concat(saved("a", 0), saved("c", 0), saved("b", 0)),
		"too many files":              nine,
		"too many sectors":            saved("a", api.MaxSectors+1, 1),
		"far too many sectors":        append([]byte{1, 'a'}, vint.Put(math.MaxUint64)...),
		"sectors that wrap round":     append([]byte{1, 'a'}, vint.Put(1<<58)...), // times 64: 0
		"sectors below 0":             append([]byte{1, 'a'}, vint.Put(1<<63)...),
		"a length that wraps round":   append(vint.Put(math.MaxUint64), 'a', 0),
		"a length longer than needed": {129, 0, 'a', 0},
		"a number longer than needed": {1, 'a', 128, 0},
		"a number that is too wide":   append([]byte{1, 'a'}, bytes.Repeat([]byte{255}, 11)...),
		"a byte behind":               append(slices.Clone(a), 0),
		"a byte ahead":                append([]byte{0}, a...),
		"a sector too many":           slices.Concat(a, sec(0)),
		"a sector too few":            append([]byte{1, 'a', 2}, sec(0)...),
		"no number":                   {1, 'a'},
		"one byte":                    {0},
	} {
		for _, room := range []int{0, 2, api.MaxSectors} {
			if d, err := disk.Load(room, b); d != nil || api.Code(err) != api.ErrSaved {
				t.Errorf("%s: %v", why, err)
			}
			notLoaded(t, room, b, api.ErrSaved)
		}
	}
}

// P4.9: files of the most sectors; two of them are more than any room, but a disk.
func TestLoadOfTheMost(t *testing.T) {
	one := saved("a", api.MaxSectors, 1, 2, 3)
	d := load(t, api.MaxSectors, one)
	if !bytes.Equal(d.Save(), one) {
		t.Error("Save of what was loaded is another one")
	}
	notLoaded(t, api.MaxSectors-1, one, api.ErrFull)
	notLoaded(t, api.MaxSectors, slices.Concat(one, saved("b", 1, 4)), api.ErrFull)
	notLoaded(t, api.MaxSectors, slices.Concat(one, saved("b", api.MaxSectors, 4)), api.ErrFull)
}

// P4.9: of whatever bytes, what is loaded has them as its Save.
func TestLoadOfAnyBytes(t *testing.T) {
	r := rand.New(rand.NewSource(4))
	good := slices.Concat(saved("a", 1, 'a'), saved("b.c", 0), saved("z", 2, 0, 1))
	try := func(b []byte) {
		d, err := disk.Load(9, b)
		if err == nil && !bytes.Equal(d.Save(), b) {
			t.Fatalf("%x: loaded, but Save is %x", b, d.Save())
		}
		if err != nil && (d != nil || api.Code(err) != api.ErrSaved && api.Code(err) != api.ErrFull) {
			t.Fatalf("%x: %v", b, err)
		}
	}
	for at := range good {
		for c := range 256 {
			b := slices.Clone(good)
			b[at] = byte(c)
			try(b)
		}
		try(slices.Delete(slices.Clone(good), at, at+1))
		try(slices.Insert(slices.Clone(good), at, 0))
	}
	for range 20000 {
		b := make([]byte, r.Intn(12))
		for i := range b {
			b[i] = []byte{0, 1, 2, 'a', 'b', '.', 128, 255, byte(r.Intn(256))}[r.Intn(9)]
		}
		try(b)
	}
}

// P4.9, P4.10: what is loaded is all safe, and goes on as a disk.
func TestLoadedIsSafe(t *testing.T) {
	b := slices.Concat(saved("a", 2, 1, 2), saved("b", 0))
	was := bytes.Clone(b)
	d := load(t, 5, b)
	shows(t, d, "a 01 02; b")
	pending(t, d, 0, 0)
	done(t, d.Write("a", 0, sec(9)), d.Remove("b"))
	if !bytes.Equal(b, was) || !bytes.Equal(d.Save(), was) {
		t.Error("what was handed in, or is safe, was changed")
	}
	clear(b)
	if !bytes.Equal(d.Save(), was) {
		t.Error("what was handed in was kept")
	}
	behind(t, d, "a 01 02; b", 0)
	behind(t, d, "a 09 02", 1, 0)
}
