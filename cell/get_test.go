package cell_test

import (
	"encoding/binary"
	"math"
	"slices"
	"testing"

	"scow/api"
	"scow/cell"
)

// P7.3: the example, the other way.
func TestGetTold(t *testing.T) {
	c, e := cell.GetLeaf([]byte{1, 'a', 2, 'x', 'y'})
	if want := (api.Cell{Key: []byte("a"), Size: 2, Val: []byte("xy")}); e != api.OK || !alike(c, want) {
		t.Errorf("%+v, error %d, not %+v", c, e, want)
	}
	c, e = cell.GetLeaf([]byte{1, 'a', 0xac, 2, 0, 0, 1, 0xff})
	if want := (api.Cell{Key: []byte("a"), Size: 300, Over: 511}); e != api.OK || !alike(c, want) {
		t.Errorf("%+v, error %d, not %+v", c, e, want)
	}
	c, e = cell.GetInner([]byte{1, 2, 3, 4, 2, 'a', 'b'})
	if want := (api.Cell{Key: []byte("ab"), Kid: 0x01020304}); e != api.OK || !alike(c, want) {
		t.Errorf("%+v, error %d, not %+v", c, e, want)
	}
	c, e = cell.GetInner([]byte{0, 0, 0, 1, 0})
	if want := (api.Cell{Kid: 1}); e != api.OK || !alike(c, want) {
		t.Errorf("%+v, error %d, not %+v", c, e, want)
	}
}

// P7.3: what another program has laid is got, each part from its place.
func TestGetParts(t *testing.T) {
	for _, f := range faces() {
		for _, c := range f.cells {
			b := f.lay(c)
			if !judgedGet(t, f, b) || !alike(got(t, f, b), c) {
				t.Fatalf("Get%s of %x is not %+v", f.name, b, c)
			}
		}
	}
}

// P7.3: no beginning of a cell is one, nor are no bytes.
func TestGetBeginnings(t *testing.T) {
	for _, f := range faces() {
		refusedGet(t, f, nil)
		refusedGet(t, f, []byte{})
		refusedGet(t, f, make([]byte, 0, 99))
		for _, c := range f.cells {
			b := put(t, f, c)
			for n := range b {
				refusedGet(t, f, b[:n]) // with what is cut off behind it, in its spare room
				refusedGet(t, f, slices.Clone(b[:n]))
			}
		}
	}
}

// P7.3: with anything behind it a cell is none.
func TestGetMoreBehind(t *testing.T) {
	for _, f := range faces() {
		for _, c := range f.cells {
			b := put(t, f, c)
			for _, more := range [][]byte{{0}, {1}, {255}, {0, 0, 0, 0}, {0, 0, 0, 1}, many(0, 40), some(1, 300), b} {
				refusedGet(t, f, slices.Concat(b, more))
			}
		}
		b := put(t, f, f.cells[0])
		for n := range 256 {
			refusedGet(t, f, append(slices.Clone(b), byte(n)))
		}
		for n := 1; n < 300; n++ {
			refusedGet(t, f, append(slices.Clone(b), make([]byte, n)...))
		}
	}
}

// P7.3: each byte as each other one, one byte taken out, one more anywhere.
func TestGetTurned(t *testing.T) {
	for _, f := range faces() {
		for i, c := range f.cells {
			if i > 2*longestInline && i%61 != 0 { // the first ones, and some of the others
				continue
			}
			b := put(t, f, c)
			for at, was := range b {
				for n := range 256 {
					b[at] = byte(n)
					judgedGet(t, f, b)
				}
				b[at] = was
				judgedGet(t, f, slices.Delete(slices.Clone(b), at, at+1))
				for _, n := range []byte{0, 1, 2, 24, 40, 41, 127, 128, 129, 255, was} {
					judgedGet(t, f, slices.Insert(slices.Clone(b), at, n))
				}
			}
		}
	}
}

// P7.3: all bytes of a few values, so many of them at most.
func TestGetShort(t *testing.T) {
	values := []byte{0, 1, 2, 3, 4, 40, 41, 128, 129, 255}
	for _, f := range faces() {
		cells := 0
		var b []byte
		var deeper func(most int)
		deeper = func(most int) {
			if judgedGet(t, f, b) {
				cells++
			}
			if most == 0 {
				return
			}
			for _, n := range values {
				b = append(b, n)
				deeper(most - 1)
				b = b[:len(b)-1]
			}
		}
		deeper(6)
		if cells == 0 {
			t.Errorf("Get%s: no cell among all that are so short", f.name)
		}
	}
}

// wide is n in so many bytes, longer than it need be, if they are more than vint.Put has.
func wide(n uint64, size int) []byte {
	b := binary.AppendUvarint(nil, n)
	for len(b) < size {
		b[len(b)-1] |= 128
		b = append(b, 0)
	}
	return b
}

// P7.3: a Size that is not as vint.Put has it is none, though all else is right.
func TestGetLeafForms(t *testing.T) {
	f := faces()[0]
	for size := range longestValue + 1 {
		end := some(2, size)
		if size > longestInline {
			end = []byte{0, 0, 0, 1}
		}
		shortest := len(wide(uint64(size), 0))
		for n := shortest; n <= 12; n++ {
			b := slices.Concat([]byte{1, 'a'}, wide(uint64(size), n), end)
			if is := judgedGet(t, f, b); is != (n == shortest) {
				t.Fatalf("GetLeaf of %x, the Size in %d bytes: %v", b, n, is)
			}
		}
	}
	for _, number := range [][]byte{many(128, 1), many(128, 5), many(128, 9), many(128, 10), many(128, 11), many(255, 9), many(255, 10), many(255, 60)} {
		refusedGet(t, f, slices.Concat([]byte{1, 'a'}, number)) // a number that does not end
		refusedGet(t, f, slices.Concat([]byte{1, 'a'}, number, []byte{2}))
		refusedGet(t, f, slices.Concat([]byte{1, 'a'}, number, []byte{0, 0, 0, 1}))
		refusedGet(t, f, slices.Concat([]byte{1, 'a'}, number, make([]byte, 40)))
	}
}

// P7.3: Sizes that no value has, with as many bytes behind them, with a chain, with those that its lowest bits ask for.
func TestGetLeafSizes(t *testing.T) {
	f := faces()[0]
	far := []uint64{
		1 << 8, 1<<8 + 2, 1 << 14, 1<<14 + 2, 1 << 16, 1<<16 + 40, 1 << 31, 1<<31 + 2, 1<<32 - 1, 1 << 32, 1<<32 + 2, 1<<32 + 40, 1<<32 + 41, 1<<32 + 1000,
		1 << 62, 1<<63 - 1, 1 << 63, 1<<63 + 2, 1<<63 + 41, math.MaxUint64 - 1, math.MaxUint64,
	}
	for size := range uint64(1100) {
		far = append(far, size)
	}
	for _, size := range far {
		lens := []int{0, 1, 3, 4, 5, 39, 40, 41, 999, 1000, 1001, int(size % 64), int(size % 256)}
		if size < 1100 {
			lens = append(lens, int(size), int(size)+1)
		}
		for _, n := range lens {
			is := judgedGet(t, f, slices.Concat([]byte{2, 'a', 'b'}, wide(size, 0), many(1, n)))
			inline, chained := size <= 40 && uint64(n) == size, size > 40 && size <= 1000 && n == 4
			if is != (inline || chained) {
				t.Fatalf("GetLeaf of a Size of %d with %d bytes behind it: %v", size, n, is)
			}
		}
		refusedGet(t, f, slices.Concat([]byte{0}, wide(size, 0), many(1, int(size%41))))
	}
}

// P7.3: each length of a key, with as many bytes, more, and fewer; a length is a byte, and nothing else.
func TestGetKeys(t *testing.T) {
	leaf, inner := faces()[0], faces()[1]
	for size := range 256 {
		for _, n := range []int{0, size - 1, size, size + 1, 24, 300} {
			key := append([]byte{byte(size)}, some(3, max(n, 0))...)
			for _, end := range [][]byte{{0}, {2, 'x', 'y'}, {41, 0, 0, 0, 1}} {
				b := slices.Concat(key, end)
				if n != size || size < 1 || size > 24 {
					judgedGet(t, leaf, b)
				} else if !judgedGet(t, leaf, b) || len(got(t, leaf, b).Key) != size {
					t.Fatalf("GetLeaf of %x: no cell with a key of %d bytes", b, size)
				}
			}
			for _, kid := range [][]byte{{0, 0, 0, 0}, {0, 0, 0, 1}, {255, 255, 255, 255}} {
				b := slices.Concat(kid, key)
				if is, may := judgedGet(t, inner, b), kid[3] != 0 && size <= 24 && max(n, 0) == size; is != may {
					t.Fatalf("GetInner of %x: %v", b, is)
				}
			}
		}
	}
	refusedGet(t, leaf, []byte{129, 0, 'a', 0})
	refusedGet(t, inner, []byte{0, 0, 0, 1, 128, 0})
	refusedGet(t, inner, []byte{0, 0, 0, 1, 129, 0, 'a'})
}

// P7.3: pages' numbers that no cell has.
func TestGetNumbers(t *testing.T) {
	leaf, inner := faces()[0], faces()[1]
	for _, size := range []byte{41, 42, 100, 127} {
		refusedGet(t, leaf, []byte{1, 'a', size, 0, 0, 0, 0})
		refusedGet(t, leaf, []byte{1, 'a', size, 0, 0, 1})
		refusedGet(t, leaf, []byte{1, 'a', size, 0, 0, 0, 0, 1})
	}
	for k := range longestKey + 1 {
		refusedGet(t, inner, slices.Concat([]byte{0, 0, 0, 0, byte(k)}, some(4, k)))
		refusedGet(t, inner, slices.Concat([]byte{0, 0, 1, byte(k)}, some(4, k)))
	}
}

// P7.3: the one kind's bytes as the other's, and junk of each length.
func TestGetOthers(t *testing.T) {
	all := faces()
	for _, f := range all {
		for _, g := range all {
			for _, c := range g.cells {
				judgedGet(t, f, put(t, g, c))
			}
		}
		for size := range 200 {
			for seed := range 60 {
				b := some(1000*seed+size, size)
				judgedGet(t, f, b)
				for i := range b {
					b[i] %= 48
				}
				judgedGet(t, f, b)
			}
		}
		refusedGet(t, f, many(0, 1<<20))
		refusedGet(t, f, many(1, 1<<20))
		refusedGet(t, f, many(255, 1<<20))
	}
}
