package cell_test

import (
	"bytes"
	"math"
	"slices"
	"testing"

	"scow/api"
	"scow/cell"
)

// same fails unless Same tells two cells to be the same.
func same(t *testing.T, a, b api.Cell) {
	t.Helper()
	if !cell.Same(a, b) || !cell.Same(b, a) {
		t.Fatalf("%+v and %+v are not the same", a, b)
	}
}

// differ fails unless Same tells two cells apart.
func differ(t *testing.T, a, b api.Cell) {
	t.Helper()
	if cell.Same(a, b) || cell.Same(b, a) {
		t.Fatalf("%+v and %+v are the same", a, b)
	}
}

// P7.3: cells that have the same parts, wherever these lie, and be they ones that can be put or not.
func TestSameOfSame(t *testing.T) {
	all := append(leaves(), inners()...)
	for _, n := range []int{0, 1, 25, 41, 1001} {
		all = append(all, api.Cell{Key: some(1, n), Size: -n, Val: some(2, n), Over: uint32(n), Kid: uint32(n)})
	}
	for _, c := range all {
		d := c
		d.Key, d.Val = slices.Clone(c.Key), slices.Clone(c.Val)
		same(t, c, c)
		same(t, c, d)
	}
	same(t, api.Cell{}, api.Cell{})
	same(t, api.Cell{Key: []byte{}}, api.Cell{})
	same(t, api.Cell{Val: []byte{}}, api.Cell{})
	same(t, api.Cell{Key: []byte{}, Kid: 1}, api.Cell{Kid: 1, Val: []byte{}})
	same(t, api.Cell{Key: []byte("a"), Val: make([]byte, 0, 9)}, api.Cell{Key: []byte("a")})
	key, _ := withRoom([]byte("key"))
	val, _ := withRoom([]byte("value"))
	same(t, api.Cell{Key: key, Size: 5, Val: val}, api.Cell{Key: []byte("key"), Size: 5, Val: []byte("value")})
}

// P7.3: cells that differ in one of their parts alone.
func TestSameOfUnlike(t *testing.T) {
	for _, c := range []api.Cell{{}, {Key: []byte("key"), Size: 5, Val: []byte("value")}, {Key: []byte("key"), Size: 99, Over: 7}, {Key: []byte("key"), Kid: 9}, {Key: []byte("k"), Size: 3, Val: []byte("v"), Over: 4, Kid: 5}} {
		for i := range 64 {
			d := c
			d.Size ^= 1 << i
			differ(t, c, d)
			d = c
			d.Over ^= 1 << (i % 32)
			differ(t, c, d)
			d = c
			d.Kid ^= 1 << (i % 32)
			differ(t, c, d)
		}
		d := c
		d.Over, d.Kid = c.Over+1, c.Kid-1
		differ(t, c, d)
		for _, b := range others(c.Key) {
			d := c
			d.Key = b
			differ(t, c, d)
		}
		for _, b := range others(c.Val) {
			d := c
			d.Val = b
			differ(t, c, d)
		}
	}
	differ(t, api.Cell{Key: []byte("a")}, api.Cell{Val: []byte("a")})
	differ(t, api.Cell{Key: []byte("ab"), Val: []byte("c")}, api.Cell{Key: []byte("a"), Val: []byte("bc")})
	differ(t, api.Cell{Over: 1}, api.Cell{Kid: 1})
	differ(t, api.Cell{Size: 1}, api.Cell{Over: 1})
}

// others are bytes that differ from b by a bit, or by their length.
func others(b []byte) [][]byte {
	l := [][]byte{append(slices.Clone(b), 0), append(slices.Clone(b), 1), append([]byte{0}, b...)}
	for i := range 8 * len(b) {
		c := slices.Clone(b)
		c[i/8] ^= 1 << (i % 8)
		l = append(l, c)
	}
	for i := range b {
		l = append(l, b[:i], b[i+1:])
	}
	return l
}

// P7.4: what is put is got, it is MaxCell bytes at most, and what is got is put as the same bytes.
func TestThereAndBack(t *testing.T) {
	if api.MaxCell != longestCell || api.MaxKey != longestKey || api.MaxValue != longestValue || api.MaxInline != longestInline {
		t.Fatal("the limits are others than the document's")
	}
	for _, f := range faces() {
		for _, c := range f.cells {
			b := put(t, f, c)
			if len(b) > api.MaxCell {
				t.Fatalf("Put%s of %+v: %d bytes", f.name, c, len(b))
			}
			d := got(t, f, b)
			if !cell.Same(c, d) || !cell.Same(d, c) || !alike(c, d) {
				t.Fatalf("%+v is %+v there and back", c, d)
			}
			if again := put(t, f, d); !bytes.Equal(b, again) {
				t.Fatalf("Put%s of %+v: %x, and back %x", f.name, c, b, again)
			}
		}
	}
}

// P7.4: unlike cells have unlike bytes.
func TestUnlikeBytes(t *testing.T) {
	for _, f := range faces() {
		of := map[string]api.Cell{}
		for _, c := range f.cells {
			b := string(put(t, f, c))
			if d, ok := of[b]; ok && !alike(c, d) {
				t.Fatalf("Put%s: %+v and %+v have the same bytes", f.name, c, d)
			}
			of[b] = c
		}
		if len(of) < len(f.cells)-3 { // a few are told twice
			t.Errorf("Put%s: %d cells have %d texts", f.name, len(f.cells), len(of))
		}
	}
}

func TestNothingHandedInIsChanged(t *testing.T) {
	for _, f := range faces() {
		wrong := []api.Cell{{}, {Key: many(1, 25), Val: many(2, 41), Size: 41}, {Key: []byte("a"), Val: []byte("xy"), Size: 3, Kid: 1}}
		for _, c := range append(wrong, f.cells...) {
			key, keyWhole := withRoom(c.Key)
			val, valWhole := withRoom(c.Val)
			keyWas, valWas := slices.Clone(keyWhole), slices.Clone(valWhole)
			c.Key, c.Val = key, val
			b, e := f.put(c)
			cell.Same(c, c)
			cell.Same(c, api.Cell{})
			if !bytes.Equal(keyWhole, keyWas) || !bytes.Equal(valWhole, valWas) {
				t.Fatalf("Put%s of %+v, or Same, changed what was handed in", f.name, c)
			}
			if e != api.OK {
				b = []byte{1, 'a', 3, 'x', 'y'}
			}
			b, whole := withRoom(b)
			was := slices.Clone(whole)
			f.get(b)
			f.get(b[:len(b)-1])
			f.get(whole)
			f.get(whole[1:])
			if !bytes.Equal(whole, was) {
				t.Fatalf("Get%s of %x changed what was handed in", f.name, b)
			}
		}
	}
}

// What is handed in may be changed behind a call, and what is answered too: neither is seen in the other.
func TestPutSharesNothing(t *testing.T) {
	for _, f := range faces() {
		for _, c := range f.cells {
			key, keyWhole := withRoom(c.Key)
			val, valWhole := withRoom(c.Val)
			keyWas, valWas := slices.Clone(keyWhole), slices.Clone(valWhole)
			d := c
			d.Key, d.Val = key, val
			a, b := put(t, f, d), put(t, f, d)
			turn(a)
			if !bytes.Equal(keyWhole, keyWas) || !bytes.Equal(valWhole, valWas) || !bytes.Equal(b, f.lay(c)) {
				t.Fatalf("Put%s of %+v shares memory with the cell, or with another answer", f.name, c)
			}
			turn(key)
			turn(val)
			if !bytes.Equal(b, f.lay(c)) {
				t.Fatalf("Put%s of %+v hangs on what was handed in", f.name, c)
			}
		}
	}
}

func TestGetSharesNothing(t *testing.T) {
	for _, f := range faces() {
		for _, c := range f.cells {
			b, whole := withRoom(f.lay(c))
			was := slices.Clone(whole)
			p, q, r := got(t, f, b), got(t, f, b), got(t, f, b)
			turn(p.Key)
			if !bytes.Equal(p.Val, c.Val) {
				t.Fatalf("Get%s of %x: the Key shares memory with the Val", f.name, b)
			}
			turn(p.Val)
			_ = append(q.Key, many(9, 50)...)
			_ = append(q.Val, many(9, 50)...)
			if !bytes.Equal(whole, was) || !alike(q, c) || !alike(r, c) {
				t.Fatalf("Get%s of %x shares memory with its bytes, or with another answer", f.name, b)
			}
			turn(b)
			if !alike(r, c) {
				t.Fatalf("Get%s of %x hangs on what was handed in", f.name, was)
			}
		}
	}
}

// What is answered hangs on the arguments alone, not on what was put and got ahead.
func TestNothingIsKept(t *testing.T) {
	for _, f := range faces() {
		c, d := f.cells[0], f.cells[len(f.cells)-1]
		b, e := put(t, f, c), put(t, f, d)
		refusedPut(t, f, api.Cell{Size: math.MaxInt})
		refusedGet(t, f, []byte{3, 'a'})
		if !bytes.Equal(b, f.lay(c)) || !bytes.Equal(put(t, f, c), b) || !bytes.Equal(put(t, f, d), e) {
			t.Errorf("Put%s: a cell's bytes hang on another cell", f.name)
		}
		if !alike(got(t, f, b), c) || !alike(got(t, f, e), d) || !alike(got(t, f, b), c) {
			t.Errorf("Get%s: a cell hangs on another one's bytes", f.name)
		}
	}
}
