package cell_test

import (
	"bytes"
	"encoding/hex"
	"math"
	"testing"

	"scow/api"
	"scow/cell"
	"scow/vint"
)

// P7.1: the example, and other bytes, told by hand.
func TestPutLeafTold(t *testing.T) {
	for _, c := range []struct {
		c    api.Cell
		want string
	}{
		{api.Cell{Key: []byte("a"), Size: 2, Val: []byte("xy")}, "01" + "61" + "02" + "7879"},
		{api.Cell{Key: []byte("a")}, "01" + "61" + "00"},
		{api.Cell{Key: []byte{0}, Size: 1, Val: []byte{0}}, "01" + "00" + "01" + "00"},
		{api.Cell{Key: []byte("abc"), Size: 3, Val: []byte{255, 0, 128}}, "03" + "616263" + "03" + "ff0080"},
		{api.Cell{Key: []byte("k"), Size: 40, Val: many(7, 40)}, "01" + "6b" + "28" + hex.EncodeToString(many(7, 40))},
		{api.Cell{Key: []byte("k"), Size: 41, Over: 1}, "01" + "6b" + "29" + "00000001"},
		{api.Cell{Key: []byte("k"), Size: 127, Over: 256}, "01" + "6b" + "7f" + "00000100"},
		{api.Cell{Key: []byte("k"), Size: 128, Over: 0x01020304}, "01" + "6b" + "8001" + "01020304"},
		{api.Cell{Key: []byte("key"), Size: 300, Over: 511}, "03" + "6b6579" + "ac02" + "000001ff"},
		{api.Cell{Key: many(9, 24), Size: 1000, Over: math.MaxUint32}, "18" + hex.EncodeToString(many(9, 24)) + "e807" + "ffffffff"},
	} {
		b, e := cell.PutLeaf(c.c)
		if is := hex.EncodeToString(b); e != api.OK || is != c.want {
			t.Errorf("PutLeaf of %+v: %s, error %d, not %s", c.c, is, e, c.want)
		}
	}
}

// P7.1: of each cell that may be, its parts one behind the other, the Size as vint has it.
func TestPutLeafParts(t *testing.T) {
	f := faces()[0]
	for _, c := range f.cells {
		judgedPut(t, f, c)
		end := c.Val
		if c.Size > longestInline {
			end = vint.Fixed(uint64(c.Over), 4)
		}
		want := bytes.Join([][]byte{vint.Fixed(uint64(len(c.Key)), 1), c.Key, vint.Put(uint64(c.Size)), end}, nil)
		if b := put(t, f, c); !bytes.Equal(b, want) {
			t.Fatalf("PutLeaf of %+v: %x, not %x", c, b, want)
		}
	}
}

// P7.1: keys of each length, those too whose length's lowest byte is one that may be.
func TestPutLeafKeys(t *testing.T) {
	f := faces()[0]
	refusedPut(t, f, api.Cell{})
	refusedPut(t, f, api.Cell{Key: []byte{}})
	refusedPut(t, f, api.Cell{Key: make([]byte, 0, 9)})
	sizes := []int{255, 256, 257, 260, 280, 281, 512, 513, 1000, 1<<16 - 1, 1 << 16, 1<<16 + 1, 1<<16 + 24}
	for size := range 100 {
		sizes = append(sizes, size)
	}
	for _, size := range sizes {
		for _, c := range []api.Cell{
			{Key: some(1, size)},
			{Key: some(1, size), Size: 2, Val: []byte("xy")},
			{Key: some(1, size), Size: 40, Val: some(2, 40)},
			{Key: some(1, size), Size: 41, Over: 1},
			{Key: some(1, size), Size: 1000, Over: math.MaxUint32},
		} {
			if may := size >= 1 && size <= 24; may != f.may(c) {
				t.Fatalf("a key of %d bytes: %v", size, may)
			}
			judgedPut(t, f, c)
		}
	}
}

// sizes are all that a leaf's value may be said to have, those about them, and ones far off, whose lowest bytes are ones that may be.
func sizes() []int {
	l := []int{
		math.MinInt, math.MinInt + 1, math.MinInt + 40, -1 << 32, 2 - 1<<32, -1 << 31, 41 - 1<<16, -1001, -1000, -999, -256, -255, -216,
		1 << 14, 1<<14 + 1, 1 << 16, 1<<16 + 2, 1<<16 + 41, 1<<31 - 1, 1 << 31, 1<<31 + 40, 1 << 32, 1<<32 + 2, 1<<32 + 40, 1<<32 + 41, 1<<32 + 1000, 1 << 62, math.MaxInt - 1, math.MaxInt,
	}
	for size := -130; size <= 1300; size++ {
		l = append(l, size)
	}
	return l
}

// P7.1: each Size with a Val of as many bytes, of one more, of one less, of none, and of others, with and without a chain.
func TestPutLeafSizes(t *testing.T) {
	f := faces()[0]
	val := some(3, 1400)
	for _, size := range sizes() {
		lens := []int{0, 1, 2, 39, 40, 41, 999, 1000, 1001}
		if size > -2 && size < len(val) {
			lens = append(lens, max(size-1, 0), max(size, 0), size+1)
		}
		for _, n := range lens {
			for _, over := range []uint32{0, 1, 2, 256, math.MaxUint32} {
				judgedPut(t, f, api.Cell{Key: []byte("key"), Size: size, Val: val[:n], Over: over})
			}
		}
		judgedPut(t, f, api.Cell{Key: []byte("key"), Size: size, Val: nil, Over: 1})
		judgedPut(t, f, api.Cell{Key: []byte("key"), Size: size, Val: []byte{}, Over: 1})
	}
}

// P7.1: both kinds of values at their edges, told one by one.
func TestPutLeafEdges(t *testing.T) {
	f := faces()[0]
	key := []byte("key")
	for _, c := range []struct {
		c   api.Cell
		may bool
	}{
		{api.Cell{Key: key, Size: -1}, false},
		{api.Cell{Key: key, Size: -1, Over: 1}, false},
		{api.Cell{Key: key, Size: -1, Val: []byte{1}}, false},
		{api.Cell{Key: key, Size: 0}, true},
		{api.Cell{Key: key, Size: 0, Val: []byte{}}, true},
		{api.Cell{Key: key, Size: 0, Val: []byte{1}}, false},
		{api.Cell{Key: key, Size: 0, Over: 1}, false},
		{api.Cell{Key: key, Size: 40, Val: many(1, 40)}, true},
		{api.Cell{Key: key, Size: 40, Val: many(1, 39)}, false},
		{api.Cell{Key: key, Size: 40, Val: many(1, 41)}, false},
		{api.Cell{Key: key, Size: 40}, false},
		{api.Cell{Key: key, Size: 40, Over: 1}, false},
		{api.Cell{Key: key, Size: 40, Val: many(1, 40), Over: 1}, false},
		{api.Cell{Key: key, Size: 40, Val: many(1, 40), Over: math.MaxUint32}, false},
		{api.Cell{Key: key, Size: 40, Val: many(1, 40), Kid: 1}, false},
		{api.Cell{Key: key, Size: 41, Over: 1}, true},
		{api.Cell{Key: key, Size: 41, Over: math.MaxUint32}, true},
		{api.Cell{Key: key, Size: 41, Over: 0}, false},
		{api.Cell{Key: key, Size: 41, Val: many(1, 41)}, false},
		{api.Cell{Key: key, Size: 41, Val: many(1, 41), Over: 1}, false},
		{api.Cell{Key: key, Size: 41, Val: many(1, 40), Over: 1}, false},
		{api.Cell{Key: key, Size: 41, Val: []byte{1}, Over: 1}, false},
		{api.Cell{Key: key, Size: 41, Over: 1, Kid: 1}, false},
		{api.Cell{Key: key, Size: 1000, Over: 1}, true},
		{api.Cell{Key: key, Size: 1000, Val: many(1, 1000)}, false},
		{api.Cell{Key: key, Size: 1001, Over: 1}, false},
		{api.Cell{Key: key, Size: 1001, Val: many(1, 1001)}, false},
	} {
		if f.may(c.c) != c.may {
			t.Fatalf("%+v: not %v", c.c, c.may)
		}
		judgedPut(t, f, c.c)
	}
}

// P7.1: whatever is wrong, alone and together with whatever else.
func TestPutLeafAll(t *testing.T) {
	f := faces()[0]
	for _, k := range []int{0, 1, 2, 23, 24, 25, 26, 255, 256, 257} {
		for _, size := range []int{math.MinInt, -41, -1, 0, 1, 2, 39, 40, 41, 42, 128, 296, 999, 1000, 1001, 1024, 1<<32 + 1, math.MaxInt} {
			for _, n := range []int{0, 1, 2, 39, 40, 41, 42, 999, 1000, 1001} {
				for _, over := range []uint32{0, 1, 1 << 16, math.MaxUint32} {
					for _, kid := range []uint32{0, 1, 1 << 16, 1 << 31, math.MaxUint32} {
						judgedPut(t, f, api.Cell{Key: some(4, k), Size: size, Val: some(5, n), Over: over, Kid: kid})
					}
				}
			}
		}
	}
}

// P7.1, P7.2: a Kid makes any leaf's cell none, and each of the leaf's parts any inner page's cell.
func TestPutOthers(t *testing.T) {
	leaf, inner := faces()[0], faces()[1]
	for _, c := range leaf.cells {
		refusedPut(t, inner, c)
		for _, kid := range []uint32{1, 256, 1 << 31, math.MaxUint32} {
			c.Kid = kid
			refusedPut(t, leaf, c)
			judgedPut(t, inner, c)
		}
	}
	for _, c := range inner.cells {
		refusedPut(t, leaf, c)
	}
}

// P7.2: bytes told by hand.
func TestPutInnerTold(t *testing.T) {
	for _, c := range []struct {
		c    api.Cell
		want string
	}{
		{api.Cell{Kid: 1}, "00000001" + "00"},
		{api.Cell{Kid: 0x01020304, Key: []byte("a")}, "01020304" + "01" + "61"},
		{api.Cell{Kid: 511, Key: []byte("key")}, "000001ff" + "03" + "6b6579"},
		{api.Cell{Kid: math.MaxUint32, Key: many(0, 24)}, "ffffffff" + "18" + hex.EncodeToString(many(0, 24))},
	} {
		b, e := cell.PutInner(c.c)
		if is := hex.EncodeToString(b); e != api.OK || is != c.want {
			t.Errorf("PutInner of %+v: %s, error %d, not %s", c.c, is, e, c.want)
		}
	}
}

// P7.2: keys of each length with each Kid.
func TestPutInnerKeys(t *testing.T) {
	f := faces()[1]
	for _, c := range f.cells {
		judgedPut(t, f, c)
	}
	sizes := []int{255, 256, 257, 260, 280, 281, 512, 1000, 1<<16 - 1, 1 << 16, 1<<16 + 1, 1<<16 + 24}
	for size := range 100 {
		sizes = append(sizes, size)
	}
	for _, size := range sizes {
		for _, kid := range []uint32{0, 1, 2, 255, 256, 1 << 16, 1 << 31, math.MaxUint32} {
			c := api.Cell{Key: some(6, size), Kid: kid}
			if may := size <= 24 && kid > 0; may != f.may(c) {
				t.Fatalf("a key of %d bytes, kid %d: %v", size, kid, may)
			}
			judgedPut(t, f, c)
		}
	}
	for _, key := range [][]byte{nil, {}, make([]byte, 0, 9)} {
		judgedPut(t, f, api.Cell{Key: key, Kid: 1})
		refusedPut(t, f, api.Cell{Key: key})
	}
}

// P7.2: Size, Over, Val, each wrong alone, and together.
func TestPutInnerOthers(t *testing.T) {
	f := faces()[1]
	for _, k := range []int{0, 1, 24, 25} {
		for _, kid := range []uint32{0, 1, math.MaxUint32} {
			for _, size := range sizes() {
				judgedPut(t, f, api.Cell{Key: some(7, k), Kid: kid, Size: size})
			}
			for _, over := range append([]uint32{0}, numbers()...) {
				judgedPut(t, f, api.Cell{Key: some(7, k), Kid: kid, Over: over})
			}
			for _, n := range []int{0, 1, 2, 4, 5, 24, 40, 41, 256, 1000} {
				judgedPut(t, f, api.Cell{Key: some(7, k), Kid: kid, Val: some(8, n)})
				judgedPut(t, f, api.Cell{Key: some(7, k), Kid: kid, Val: some(8, n), Size: n})
				judgedPut(t, f, api.Cell{Key: some(7, k), Kid: kid, Val: some(8, n), Size: n, Over: 1})
			}
		}
	}
	judgedPut(t, f, api.Cell{Kid: 1, Val: []byte{}})
}
