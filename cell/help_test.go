package cell_test

import (
	"bytes"
	"encoding/binary"
	"math"
	"math/rand/v2"
	"slices"
	"testing"

	"scow/api"
	"scow/cell"
)

// The numbers of layer 7, as the document tells them.
const (
	longestKey    = 24
	longestInline = 40
	longestValue  = 1000
	longestCell   = 78
)

// face is one kind of cells: how they are put and got, and the same told by the plain ones below.
type face struct {
	name  string
	put   func(api.Cell) ([]byte, api.Errno)
	get   func([]byte) (api.Cell, api.Errno)
	may   func(api.Cell) bool
	lay   func(api.Cell) []byte
	read  func([]byte) (api.Cell, bool)
	cells []api.Cell // some that may be
}

func faces() []face {
	return []face{
		{"Leaf", cell.PutLeaf, cell.GetLeaf, mayBeLeaf, layLeaf, readLeaf, leaves()},
		{"Inner", cell.PutInner, cell.GetInner, mayBeInner, layInner, readInner, inners()},
	}
}

// mayBeLeaf tells whether PutLeaf has bytes for c, by the document's words.
func mayBeLeaf(c api.Cell) bool {
	if len(c.Key) < 1 || len(c.Key) > longestKey || c.Kid != 0 {
		return false
	}
	inline := c.Size >= 0 && c.Size <= longestInline && len(c.Val) == c.Size && c.Over == 0
	chained := c.Size > longestInline && c.Size <= longestValue && len(c.Val) == 0 && c.Over >= 1
	return inline || chained
}

// mayBeInner tells whether PutInner has bytes for c, by the document's words.
func mayBeInner(c api.Cell) bool {
	return len(c.Key) <= longestKey && c.Kid >= 1 && c.Size == 0 && c.Over == 0 && len(c.Val) == 0
}

// layLeaf is the bytes of a leaf's cell that may be, laid another way than PutLeaf lays them.
func layLeaf(c api.Cell) []byte {
	b := append([]byte{byte(len(c.Key))}, c.Key...)
	b = binary.AppendUvarint(b, uint64(c.Size))
	if c.Size <= longestInline {
		return append(b, c.Val...)
	}
	return binary.BigEndian.AppendUint32(b, c.Over)
}

// layInner is the bytes of an inner page's cell that may be, laid another way than PutInner lays them.
func layInner(c api.Cell) []byte {
	b := binary.BigEndian.AppendUint32(nil, c.Kid)
	return append(append(b, byte(len(c.Key))), c.Key...)
}

// readLeaf is the leaf's cell that b is, read from place to place.
func readLeaf(b []byte) (api.Cell, bool) {
	none := api.Cell{}
	if len(b) == 0 || b[0] < 1 || b[0] > longestKey || len(b) < 2+int(b[0]) {
		return none, false
	}
	at := 1 + int(b[0])
	c := api.Cell{Key: b[1:at], Size: int(b[at])}
	at++
	if c.Size >= 128 {
		if at == len(b) || b[at] == 0 || b[at] >= 128 { // a Size has two bytes at most
			return none, false
		}
		c.Size += 128*int(b[at]) - 128
		at++
	}
	switch rest := b[at:]; {
	case c.Size <= longestInline:
		c.Val = rest
		return c, len(rest) == c.Size
	case c.Size > longestValue || len(rest) != 4:
		return none, false
	default:
		c.Over = binary.BigEndian.Uint32(rest)
		return c, c.Over >= 1
	}
}

// readInner is the inner page's cell that b is, read from place to place.
func readInner(b []byte) (api.Cell, bool) {
	if len(b) < 5 || b[4] > longestKey || len(b) != 5+int(b[4]) {
		return api.Cell{}, false
	}
	c := api.Cell{Kid: binary.BigEndian.Uint32(b), Key: b[5:]}
	return c, c.Kid >= 1
}

// keySizes are lengths of keys that a leaf's cell may have.
var keySizes = []int{1, 2, 3, 12, 22, 23, 24}

// leaves are leaves' cells that may be: of each length of a key, each length of a value in the cell, and each other size at an edge.
func leaves() []api.Cell {
	var l []api.Cell
	for _, k := range keySizes {
		for size := range longestInline + 1 {
			l = append(l, api.Cell{Key: some(k, k), Size: size, Val: some(size, size)})
		}
		for _, size := range []int{41, 42, 63, 64, 126, 127, 128, 129, 255, 256, 257, 500, 896, 998, 999, 1000} {
			for _, over := range numbers() {
				l = append(l, api.Cell{Key: some(k, k), Size: size, Over: over})
			}
		}
	}
	for _, fill := range []byte{0, 1, 127, 128, 255} {
		l = append(l, api.Cell{Key: many(fill, 24), Size: 40, Val: many(fill, 40)}, api.Cell{Key: many(fill, 1)}, api.Cell{Key: many(fill, 24), Size: 41, Over: 1})
	}
	return l
}

// inners are inner pages' cells that may be.
func inners() []api.Cell {
	var l []api.Cell
	for k := range longestKey + 1 {
		for _, kid := range numbers() {
			l = append(l, api.Cell{Key: some(k, k), Kid: kid})
		}
	}
	for _, fill := range []byte{0, 1, 127, 128, 255} {
		l = append(l, api.Cell{Key: many(fill, 24), Kid: 1}, api.Cell{Key: many(fill, 1), Kid: math.MaxUint32})
	}
	return l
}

// numbers are those that pages may have in a cell: about each at which one more bit is needed, and ones whose bytes differ.
func numbers() []uint32 {
	l := []uint32{0x01020304, 0xf4f3f2f1, math.MaxUint32 - 1, math.MaxUint32}
	for i := range 32 {
		l = append(l, 1<<i, 1<<i+1)
		if i > 0 {
			l = append(l, 1<<i-1)
		}
	}
	slices.Sort(l)
	return slices.Compact(l)
}

// some are so many bytes, the same ones for the same seed.
func some(seed, size int) []byte {
	r := rand.NewPCG(uint64(seed), uint64(size))
	b := make([]byte, size)
	for i := range b {
		b[i] = byte(r.Uint64())
	}
	return b
}

// many are so many bytes of one value.
func many(fill byte, size int) []byte {
	return bytes.Repeat([]byte{fill}, size)
}

// alike tells whether two cells have the same parts.
func alike(a, b api.Cell) bool {
	return a.Size == b.Size && a.Over == b.Over && a.Kid == b.Kid && string(a.Key) == string(b.Key) && string(a.Val) == string(b.Val)
}

// isZero tells whether a cell has nothing in any part.
func isZero(c api.Cell) bool {
	return alike(c, api.Cell{})
}

// judgedPut fails unless Put answers of c what the document asks: its bytes, or none and ErrCell.
func judgedPut(t *testing.T, f face, c api.Cell) {
	t.Helper()
	b, e := f.put(c)
	if !f.may(c) {
		if e != api.ErrCell || len(b) != 0 {
			t.Fatalf("Put%s of %+v: %x, error %d, not none, error %d", f.name, c, b, e, api.ErrCell)
		}
		return
	}
	if want := f.lay(c); e != api.OK || !bytes.Equal(b, want) {
		t.Fatalf("Put%s of %+v: %x, error %d, not %x", f.name, c, b, e, want)
	}
	if len(b) > longestCell {
		t.Fatalf("Put%s of %+v: %d bytes", f.name, c, len(b))
	}
}

// refusedPut fails unless c has no bytes.
func refusedPut(t *testing.T, f face, c api.Cell) {
	t.Helper()
	if f.may(c) {
		t.Fatalf("%+v may be", c)
	}
	judgedPut(t, f, c)
}

// judgedGet fails unless Get answers of b what the document asks: the cell, whose Put is b then, or the zero one and ErrCell. It tells which of both.
func judgedGet(t *testing.T, f face, b []byte) bool {
	t.Helper()
	c, e := f.get(b)
	want, ok := f.read(b)
	if !ok {
		if e != api.ErrCell || !isZero(c) {
			t.Fatalf("Get%s of %x: %+v, error %d, not the zero cell, error %d", f.name, b, c, e, api.ErrCell)
		}
		return false
	}
	if e != api.OK || !alike(c, want) {
		t.Fatalf("Get%s of %x: %+v, error %d, not %+v", f.name, b, c, e, want)
	}
	if again, e := f.put(c); e != api.OK || !bytes.Equal(again, b) {
		t.Fatalf("Get%s of %x: %+v, whose Put is %x, error %d", f.name, b, c, again, e)
	}
	return true
}

// refusedGet fails unless b is no cell.
func refusedGet(t *testing.T, f face, b []byte) {
	t.Helper()
	if judgedGet(t, f, b) {
		t.Fatalf("Get%s of %x: a cell", f.name, b)
	}
}

// put is the bytes of a cell that may be.
func put(t *testing.T, f face, c api.Cell) []byte {
	t.Helper()
	b, e := f.put(c)
	if e != api.OK {
		t.Fatalf("Put%s of %+v: error %d", f.name, c, e)
	}
	return b
}

// got is the cell that b is.
func got(t *testing.T, f face, b []byte) api.Cell {
	t.Helper()
	c, e := f.get(b)
	if e != api.OK {
		t.Fatalf("Get%s of %x: error %d", f.name, b, e)
	}
	return c
}

// withRoom is p with spare room behind it, and the whole that it lies in.
func withRoom(p []byte) (part, whole []byte) {
	whole = append(slices.Clone(p), many(0xaa, 64)...)
	return whole[:len(p)], whole
}

// turn makes each byte of b another one, those of its spare room too.
func turn(b []byte) {
	b = b[:cap(b)]
	for i := range b {
		b[i] ^= 255
	}
}
