package node_test

import (
	"bytes"
	"encoding/binary"
	"fmt"
	"hash/crc32"
	"math"
	"math/rand/v2"
	"slices"
	"testing"

	"scow/api"
	"scow/node"
)

// The numbers of layers 5 to 8, as the document tells them.
const (
	pageSize  = 256
	bodySize  = 243
	bodyAt    = 9
	mostRoom  = 241
	mostData  = 238
	mostPages = 512
)

// kinds are all Kinds that a page may have.
var kinds = []int{api.PgHead, api.PgInner, api.PgLeaf, api.PgOver, api.PgFree}

// cellKinds are those whose pages have cells.
var cellKinds = []int{api.PgLeaf, api.PgInner}

// noKinds are numbers about those of the Kinds, and ones whose lowest byte is a Kind's.
var noKinds = []int{
	0, -1, -2, -3, -4, -5, 6, 7, 8, 9, 127, 128, 255, 256, 257, 258, 259, 260, 261, 262, 515, -251, -253, -254, -255, -256,
	1<<16 + 3, 1<<31 + 4, 1<<32 + 1, 1<<32 + 2, 1<<32 + 3, 1<<62 + 5, math.MinInt, math.MinInt + 3, math.MaxInt - 1, math.MaxInt,
}

// numbers are those of pages: about each at which one more bit is needed, and ones whose bytes differ.
func numbers() []uint32 {
	l := []uint32{0, 0x01020304, 0xf4f3f2f1, math.MaxUint32 - 1, math.MaxUint32}
	for i := range 32 {
		l = append(l, 1<<i-1, 1<<i, 1<<i+1)
	}
	slices.Sort(l)
	return slices.Compact(l)
}

// lsns are some that a page may have.
var lsns = []uint64{0, 1, 255, 256, 0x0102030405060708, api.MaxLSN, api.MaxLSN + 1, math.MaxUint64}

// inline is a leaf's cell with its value.
func inline(key, val string) api.Cell {
	return api.Cell{Key: []byte(key), Size: len(val), Val: []byte(val)}
}

// chained is a leaf's cell with the first page of its value's chain.
func chained(key string, size int, over uint32) api.Cell {
	return api.Cell{Key: []byte(key), Size: size, Over: over}
}

// kid is an inner page's cell.
func kid(key string, n uint32) api.Cell {
	return api.Cell{Key: []byte(key), Kid: n}
}

// of is a node of that kind, with these cells.
func of(kind int, cells ...api.Cell) api.Node {
	return api.Node{Kind: kind, LSN: 7, Cells: cells}
}

// cellBytes is the bytes of c in a page of that kind, and whether it is a cell of it, by the words of chapter 7.
func cellBytes(kind int, c api.Cell) ([]byte, bool) {
	keyed := append([]byte{byte(len(c.Key))}, c.Key...)
	if kind == api.PgInner {
		b := append(binary.BigEndian.AppendUint32(nil, c.Kid), keyed...)
		return b, len(c.Key) <= 24 && c.Kid >= 1 && c.Size == 0 && c.Over == 0 && len(c.Val) == 0
	}
	if kind != api.PgLeaf || len(c.Key) < 1 || len(c.Key) > 24 || c.Kid != 0 || c.Size < 0 || c.Size > 1000 {
		return nil, false
	}
	b := binary.AppendUvarint(keyed, uint64(c.Size))
	if c.Size <= 40 {
		return append(b, c.Val...), len(c.Val) == c.Size && c.Over == 0
	}
	return binary.BigEndian.AppendUint32(b, c.Over), len(c.Val) == 0 && c.Over >= 1
}

// used is how many bytes cells need, and whether they are cells of that kind, by the document's words.
func used(kind int, cells []api.Cell) (int, bool) {
	n := 0
	for _, c := range cells {
		b, ok := cellBytes(kind, c)
		if !ok {
			return 0, false
		}
		n += len(b) + 2
	}
	return n, kind == api.PgLeaf || kind == api.PgInner
}

// mayBe tells whether a node may be one, by the document's words: part by part.
func mayBe(n api.Node) bool {
	h := n.Head
	switch n.Kind {
	case api.PgHead:
		if h.Pages < 2 || h.Pages > mostPages || h.Root < 1 || h.Root > h.Pages-1 || h.Free > h.Pages-1 {
			return false
		}
	default:
		if h.Root != 0 || h.Pages != 0 || h.Free != 0 || h.Entries != 0 {
			return false
		}
	}
	switch n.Kind {
	case api.PgLeaf, api.PgInner:
		if n.Kind == api.PgInner && len(n.Cells) < 1 {
			return false
		}
		for i, c := range n.Cells {
			if _, ok := cellBytes(n.Kind, c); !ok || i > 0 && string(n.Cells[i-1].Key) >= string(c.Key) {
				return false
			}
		}
	default:
		if len(n.Cells) > 0 {
			return false
		}
	}
	if n.Kind == api.PgOver && (len(n.Data) < 1 || len(n.Data) > mostData) || n.Kind != api.PgOver && len(n.Data) > 0 {
		return false
	}
	return n.Kind == api.PgOver || n.Kind == api.PgFree || n.Next == 0 && n.Kind >= api.PgHead && n.Kind <= api.PgLeaf
}

// bodyOf is the body of a node that may be, and has room, laid another way than Put lays it.
func bodyOf(n api.Node) []byte {
	b := make([]byte, bodySize)
	switch n.Kind {
	case api.PgHead:
		copy(b, "SCOW1")
		binary.BigEndian.PutUint32(b[5:], n.Head.Root)
		binary.BigEndian.PutUint32(b[9:], n.Head.Pages)
		binary.BigEndian.PutUint32(b[13:], n.Head.Free)
		binary.BigEndian.PutUint64(b[17:], n.Head.Entries)
	case api.PgOver:
		binary.BigEndian.PutUint32(b, n.Next)
		b[4] = byte(len(n.Data))
		copy(b[5:], n.Data)
	case api.PgFree:
		binary.BigEndian.PutUint32(b, n.Next)
	default:
		var list [][]byte
		for _, c := range n.Cells {
			l, _ := cellBytes(n.Kind, c)
			list = append(list, l)
		}
		return cellsBody(list, 0, 0)
	}
	return b
}

// cellsBody is a body of these cells, one ahead of the other, so many bytes behind each being a hole; all that counts for nothing is that byte.
func cellsBody(list [][]byte, hole int, fill byte) []byte {
	b := many(fill, bodySize)
	at := bodySize
	b[0] = byte(len(list))
	for i, c := range list {
		at -= hole + len(c)
		b[2+2*i], b[3+2*i] = byte(at), byte(len(c))
		copy(b[at:], c)
	}
	b[1] = byte(at)
	return b
}

// sealed is a page's bytes, with a check sum reckoned by another program; the kind may be any byte.
func sealed(kind byte, lsn uint64, body []byte) []byte {
	b := append(binary.BigEndian.AppendUint64([]byte{kind}, lsn), body...)
	return binary.BigEndian.AppendUint32(b, crc32.Checksum(b, crc32.MakeTable(crc32.Castagnoli)))
}

// laid is the bytes of a node that may be, and has room.
func laid(n api.Node) []byte {
	return sealed(byte(n.Kind), n.LSN, bodyOf(n))
}

// read is the node that b is, or why it is none, read from place to place.
func read(b []byte) (api.Node, api.Errno) {
	none := api.Node{}
	if len(b) != pageSize {
		return none, api.ErrPage
	}
	if !bytes.Equal(b, sealed(b[0], binary.BigEndian.Uint64(b[1:]), b[bodyAt:bodyAt+bodySize])) {
		return none, api.ErrCheck
	}
	if b[0] < 1 || b[0] > 5 {
		return none, api.ErrPage
	}
	n := api.Node{Kind: int(b[0]), LSN: binary.BigEndian.Uint64(b[1:])}
	body := b[bodyAt : bodyAt+bodySize]
	end, ok := bodySize, true
	switch n.Kind {
	case api.PgHead:
		ok = string(body[:5]) == "SCOW1"
		n.Head = api.Head{Root: binary.BigEndian.Uint32(body[5:]), Pages: binary.BigEndian.Uint32(body[9:]), Free: binary.BigEndian.Uint32(body[13:]), Entries: binary.BigEndian.Uint64(body[17:])}
		end = 25
	case api.PgFree:
		n.Next = binary.BigEndian.Uint32(body)
		end = 4
	case api.PgOver:
		n.Next = binary.BigEndian.Uint32(body)
		end = 5 + int(body[4])
		if end > bodySize {
			return none, api.ErrNode
		}
		n.Data = body[5:end]
	default:
		n.Cells, ok = readCells(n.Kind, body)
	}
	if !ok || !mayBe(n) || !bytes.Equal(body[end:], many(0, bodySize-end)) {
		return none, api.ErrNode
	}
	return n, api.OK
}

// readCells are the cells of a body, and whether it is one of cells of that kind.
func readCells(kind int, body []byte) ([]api.Cell, bool) {
	count, top := int(body[0]), int(body[1])
	if 2+2*count > top || top > bodySize {
		return nil, false
	}
	var cells []api.Cell
	taken := map[int]bool{}
	for i := range count {
		at, size := int(body[2+2*i]), int(body[3+2*i])
		if at < top || at+size > bodySize || size > 78 {
			return nil, false
		}
		for k := at; k < at+size; k++ {
			if taken[k] {
				return nil, false
			}
			taken[k] = true
		}
		c, ok := readCell(kind, body[at:at+size])
		if !ok {
			return nil, false
		}
		cells = append(cells, c)
	}
	return cells, true
}

// readCell is the cell of that kind that b is.
func readCell(kind int, b []byte) (c api.Cell, ok bool) {
	defer func() {
		if recover() != nil { // b ended within a part
			c, ok = api.Cell{}, false
		}
	}()
	rest := b
	if kind == api.PgInner {
		c.Kid = binary.BigEndian.Uint32(rest)
		rest = rest[4:]
	}
	size := int(rest[0])
	c.Key, rest = rest[1:1+size], rest[1+size:]
	if kind == api.PgLeaf {
		n, length := binary.Uvarint(rest)
		rest = rest[length:]
		if c.Size = int(n); c.Size <= 40 {
			c.Val = rest
		} else {
			c.Over = binary.BigEndian.Uint32(rest)
		}
	}
	again, may := cellBytes(kind, c)
	return c, may && bytes.Equal(again, b)
}

// told is all that a node is, as a text.
func told(n api.Node) string {
	s := fmt.Sprintf("kind %d, LSN %d, next %d, data %x, head %v", n.Kind, n.LSN, n.Next, n.Data, n.Head)
	for _, c := range n.Cells {
		s += fmt.Sprintf("; key %x, size %d, val %x, over %d, kid %d", c.Key, c.Size, c.Val, c.Over, c.Kid)
	}
	return s
}

// nothing is the zero node's text.
var nothing = told(api.Node{})

// cut is the head of a text that is to be told.
func cut(s string) string {
	return s[:min(len(s), 600)]
}

// judgedPut fails unless Put answers of n what the document asks: its bytes, or none and the first of ErrNode, ErrRoom. It tells which of them.
func judgedPut(t *testing.T, n api.Node) api.Errno {
	t.Helper()
	b, e := node.Put(n)
	want := api.OK
	if need, _ := used(n.Kind, n.Cells); !mayBe(n) {
		want = api.ErrNode
	} else if need > mostRoom {
		want = api.ErrRoom
	}
	if e != want || want != api.OK && len(b) != 0 {
		t.Fatalf("Put of %s: %d bytes, error %d, not %d", cut(told(n)), len(b), e, want)
	}
	if want == api.OK && !bytes.Equal(b, laid(n)) {
		t.Fatalf("Put of %s: %x, not %x", cut(told(n)), b, laid(n))
	}
	return e
}

// refusedPut fails unless n has no bytes, for that reason.
func refusedPut(t *testing.T, n api.Node, want api.Errno) {
	t.Helper()
	if e := judgedPut(t, n); e != want {
		t.Fatalf("Put of %s: error %d, not %d", cut(told(n)), e, want)
	}
}

// put is the bytes of a node that may be.
func put(t *testing.T, n api.Node) []byte {
	t.Helper()
	b, e := node.Put(n)
	if e != api.OK {
		t.Fatalf("Put of %s: error %d", cut(told(n)), e)
	}
	return b
}

// judgedGet fails unless Get answers of b what the document asks: the node, or the zero one and the error. It tells which.
func judgedGet(t *testing.T, b []byte) api.Errno {
	t.Helper()
	n, e := node.Get(b)
	want, wantE := read(b)
	if e != wantE || told(n) != told(want) {
		t.Fatalf("Get of %x: %s, error %d, not %s, error %d", b, cut(told(n)), e, cut(told(want)), wantE)
	}
	if wantE != api.OK && told(n) != nothing {
		t.Fatalf("Get of %x: error %d, and beside it %s", b, e, cut(told(n)))
	}
	return e
}

// refusedGet fails unless b is no node, for that reason.
func refusedGet(t *testing.T, b []byte, want api.Errno) {
	t.Helper()
	if e := judgedGet(t, b); e != want {
		t.Fatalf("Get of %x: error %d, not %d", b, e, want)
	}
}

// got is the node that b is.
func got(t *testing.T, b []byte) api.Node {
	t.Helper()
	if e := judgedGet(t, b); e != api.OK {
		t.Fatalf("Get of %x: error %d", b, e)
	}
	n, _ := node.Get(b)
	return n
}

// nodes are ones that may be, and have room, of each kind.
func nodes() []api.Node {
	var l []api.Node
	for _, h := range []api.Head{{Root: 1, Pages: 2}, {Root: 1, Pages: 2, Free: 1}, {Root: 511, Pages: 512, Free: 511, Entries: math.MaxUint64}, {Root: 300, Pages: 400, Free: 2, Entries: 0x0102030405060708}, {Root: 2, Pages: 257, Free: 256, Entries: 1}} {
		l = append(l, api.Node{Kind: api.PgHead, Head: h})
	}
	for _, size := range []int{1, 2, 100, 127, 128, 237, 238} {
		l = append(l, api.Node{Kind: api.PgOver, Data: some(size, size)}, api.Node{Kind: api.PgOver, Next: uint32(size), Data: many(0, size)}, api.Node{Kind: api.PgOver, Next: math.MaxUint32, Data: many(255, size)})
	}
	for _, n := range []uint32{0, 1, 5, 511, 0x01020304, math.MaxUint32} {
		l = append(l, api.Node{Kind: api.PgFree, Next: n})
	}
	l = append(l, of(api.PgLeaf), of(api.PgLeaf, inline("a", "")), of(api.PgLeaf, inline("\x00", "\x00")), of(api.PgLeaf, inline("a", "xy"), chained("b", 41, 3), inline("ba", "")))
	l = append(l, of(api.PgInner, kid("", 1)), of(api.PgInner, kid("a", 5), kid("b", 4)), of(api.PgInner, kid("", math.MaxUint32), kid("\x00", 1), kid("\x00\x00", 1), kid("\xff", 9)))
	for seed := range 12 {
		for _, kind := range cellKinds {
			l = append(l, of(kind, full(kind, seed)...))
		}
	}
	for i := range l {
		l[i].LSN = lsns[i%len(lsns)]
	}
	return l
}

// full are as many cells of a kind as have room, more or less, of any sizes, their keys rising.
func full(kind int, seed int) []api.Cell {
	r := rand.New(rand.NewPCG(uint64(seed), uint64(kind)))
	var l []api.Cell
	for i := range 1 + r.IntN(20) {
		c := api.Cell{Key: append([]byte{byte(i)}, some(r.IntN(100), r.IntN(24))...)}
		switch {
		case kind == api.PgInner:
			c.Kid = 1 + r.Uint32N(600)
		case r.IntN(3) == 0:
			c.Size, c.Over = 41+r.IntN(960), 1+r.Uint32N(600)
		default:
			c.Size = r.IntN(41)
			c.Val = some(r.IntN(100), c.Size)
		}
		l = append(l, c)
		if n, _ := used(kind, l); n > mostRoom {
			return l[:len(l)-1]
		}
	}
	return l
}

// some are so many bytes, the same ones for the same seed.
func some(seed, size int) []byte {
	r := rand.NewPCG(uint64(seed), uint64(size))
	b := make([]byte, size)
	for i := range b {
		b[i] = byte(r.Uint64())
	}
	return b
}

// many are so many bytes of one value.
func many(fill byte, size int) []byte {
	return bytes.Repeat([]byte{fill}, size)
}

// withRoom is p with spare room behind it, and the whole that it lies in.
func withRoom(p []byte) (part, whole []byte) {
	whole = append(slices.Clone(p), many(0xaa, 64)...)
	return whole[:len(p)], whole
}

// turn makes each byte of b another one, those of its spare room too.
func turn(b []byte) {
	b = b[:cap(b)]
	for i := range b {
		b[i] ^= 255
	}
}
