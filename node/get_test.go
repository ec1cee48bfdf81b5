package node_test

import (
	"encoding/binary"
	"math"
	"math/rand/v2"
	"slices"
	"testing"

	"scow/api"
	"scow/node"
)

// P8.3: what was put, by Put and by the plain one.
func TestGetOfPut(t *testing.T) {
	for _, n := range nodes() {
		for _, b := range [][]byte{put(t, n), laid(n)} {
			if d := got(t, b); told(d) != told(n) {
				t.Fatalf("Get of %s: %s", told(n), told(d))
			}
		}
	}
}

// P8.3: bytes of each length but a page's: ErrPage.
func TestGetLengths(t *testing.T) {
	refusedGet(t, nil, api.ErrPage)
	for _, n := range nodes() {
		b := laid(n)
		for _, size := range []int{0, 1, 8, 9, 252, 255} {
			refusedGet(t, b[:size], api.ErrPage)
		}
		for _, more := range []int{1, 2, 256} {
			refusedGet(t, append(slices.Clone(b), many(0, more)...), api.ErrPage)
		}
	}
}

// P8.3: a page with one byte turned: ErrCheck, whatever it is a page of.
func TestGetTurned(t *testing.T) {
	for _, n := range nodes() {
		b := laid(n)
		for i := range b {
			for _, bit := range []byte{1, 16, 128} {
				b[i] ^= bit
				if _, e := node.Get(b); e != api.ErrCheck {
					t.Fatalf("Get with byte %d turned: error %d", i, e)
				}
				refusedGet(t, b, api.ErrCheck)
				b[i] ^= bit
			}
		}
	}
	for _, body := range [][]byte{many(0, bodySize), many(255, bodySize)} { // bodies of no node: the sum goes ahead
		b := sealed(api.PgHead, 1, body)
		b[255] ^= 1
		refusedGet(t, b, api.ErrCheck)
	}
}

// P8.3: a page of each other kind: ErrPage; each body as each other kind's.
func TestGetKinds(t *testing.T) {
	for _, n := range nodes() {
		body := bodyOf(n)
		for kind := range 256 {
			e := judgedGet(t, sealed(byte(kind), n.LSN, body))
			if kind < 1 || kind > 5 {
				if e != api.ErrPage {
					t.Fatalf("Get of kind %d: error %d", kind, e)
				}
			} else if kind == n.Kind && e != api.OK {
				t.Fatalf("Get of kind %d: error %d", kind, e)
			}
		}
	}
}

// P8.3: a body of no bytes but 0, and of no bytes but others, of each kind.
func TestGetPlainBodies(t *testing.T) {
	for _, kind := range kinds {
		for fill := range 256 {
			e := judgedGet(t, sealed(byte(kind), 5, many(byte(fill), bodySize)))
			may := kind == api.PgFree && fill == 0 || kind == api.PgOver && fill == mostData // Data that fills its page
			if may != (e == api.OK) {
				t.Fatalf("Get of kind %d, all bytes %d: error %d", kind, fill, e)
			}
		}
	}
}

// P8.3: each byte of bodies of each kind as each other one; those that stand for nothing as a few others.
func TestGetEachByte(t *testing.T) {
	for _, c := range []struct {
		n          api.Node
		head, tail int // bytes that stand for something
	}{
		{api.Node{Kind: api.PgHead, Head: api.Head{Root: 3, Pages: 300, Free: 258, Entries: 70000}}, 25, 0},
		{api.Node{Kind: api.PgOver, Next: 9, Data: some(1, 20)}, 25, 0},
		{api.Node{Kind: api.PgFree, Next: 9}, 4, 0},
		{of(api.PgLeaf, inline("a", "xy"), chained("b", 300, 5), inline("c", "")), 8, 16},
		{of(api.PgInner, kid("", 3), kid("k", 258), kid("kk", 1)), 8, 18},
	} {
		body := bodyOf(c.n)
		for i, was := range body {
			step := 51
			if i < c.head || i >= bodySize-c.tail {
				step = 1
			}
			for fill := 0; fill < 256; fill += step {
				body[i] = byte(fill)
				judgedGet(t, sealed(byte(c.n.Kind), c.n.LSN, body))
			}
			body[i] = was
		}
		got(t, sealed(byte(c.n.Kind), c.n.LSN, body))
	}
}

// P8.3: what is left of a body without cells is 0: each byte behind what is told, alone.
func TestGetWhatIsLeft(t *testing.T) {
	for _, c := range []struct {
		n   api.Node
		end int
	}{
		{api.Node{Kind: api.PgHead, Head: api.Head{Root: 1, Pages: 2}}, 25},
		{api.Node{Kind: api.PgOver, Data: many(0, 1)}, 6},
		{api.Node{Kind: api.PgOver, Data: many(0, 100)}, 105},
		{api.Node{Kind: api.PgOver, Data: many(0, 237)}, 242},
		{api.Node{Kind: api.PgOver, Data: many(0, 238)}, 243},
		{api.Node{Kind: api.PgFree}, 4},
	} {
		body := bodyOf(c.n)
		for i := c.end; i < bodySize; i++ {
			for _, fill := range []byte{1, 128, 255} {
				body[i] = fill
				refusedGet(t, sealed(byte(c.n.Kind), 1, body), api.ErrNode)
			}
			body[i] = 0
		}
		got(t, sealed(byte(c.n.Kind), 1, body))
	}
}

// P8.3: a head's letters, and its numbers about their edges.
func TestGetHeads(t *testing.T) {
	body := bodyOf(api.Node{Kind: api.PgHead, Head: api.Head{Root: 1, Pages: 2}})
	for _, letters := range []string{"scow1", "SCOW2", "SCOW0", "SCOW\x00", "\x00\x00\x00\x00\x00", "XCOW1", "SXOW1", "SCXW1", "SCOX1", "1WOCS"} {
		wrong := slices.Clone(body)
		copy(wrong, letters)
		refusedGet(t, sealed(api.PgHead, 1, wrong), api.ErrNode)
	}
	about := []uint32{0, 1, 2, 3, 255, 256, 257, 510, 511, 512, 513, 1 << 16, 1<<16 + 1, 1<<16 + 2, 1 << 24, 1 << 31, math.MaxUint32}
	for _, pages := range about {
		for _, root := range about {
			for _, free := range about {
				binary.BigEndian.PutUint32(body[5:], root)
				binary.BigEndian.PutUint32(body[9:], pages)
				binary.BigEndian.PutUint32(body[13:], free)
				binary.BigEndian.PutUint64(body[17:], uint64(root)<<32+uint64(free))
				e := judgedGet(t, sealed(api.PgHead, 1, body))
				may := pages >= 2 && pages <= 512 && root >= 1 && root <= pages-1 && free <= pages-1
				if may != (e == api.OK) {
					t.Fatalf("Get of the root %d, pages %d, free %d: error %d", root, pages, free, e)
				}
			}
		}
	}
}

// P8.3: a chain's page with each length, whatever stands behind it.
func TestGetOver(t *testing.T) {
	for _, fill := range []byte{0, 1} {
		for size := range 256 {
			body := many(fill, bodySize)
			copy(body, []byte{0, 0, 1, 2, byte(size)})
			e := judgedGet(t, sealed(api.PgOver, 1, body))
			may := size >= 1 && size <= 238 && (fill == 0 || size == 238)
			if may != (e == api.OK) {
				t.Fatalf("Get of Data of %d bytes, in a body of bytes %d: error %d", size, fill, e)
			}
		}
	}
	for size := 1; size <= 238; size++ {
		n := got(t, laid(api.Node{Kind: api.PgOver, Next: 7, Data: many(9, size)}))
		if len(n.Data) != size || n.Next != 7 {
			t.Fatalf("Get of Data of %d bytes: %s", size, told(n))
		}
	}
}

// lists are cells of each kind that may be.
func lists(kind int) [][]api.Cell {
	l := [][]api.Cell{{celled(kind, "a")}, {celled(kind, "a"), celled(kind, "b")}, {celled(kind, "a"), celled(kind, "ab"), celled(kind, "b"), celled(kind, "\x80")}}
	for seed := range 6 {
		l = append(l, full(kind, seed)[:1], full(kind, seed))
	}
	return l
}

// bytesOf are cells' bytes.
func bytesOf(kind int, cells []api.Cell) [][]byte {
	var l [][]byte
	for _, c := range cells {
		b, _ := cellBytes(kind, c)
		l = append(l, b)
	}
	return l
}

// P8.3: holes of each size among the cells, and whatever stands in them, are taken, and so is what stands ahead of the top.
func TestGetHoles(t *testing.T) {
	for _, kind := range cellKinds {
		for _, cells := range lists(kind) {
			need, _ := used(kind, cells)
			for _, fill := range []byte{0, 1, 255} {
				for hole := 0; need+hole*len(cells) <= mostRoom; hole++ {
					n := got(t, sealed(byte(kind), 7, cellsBody(bytesOf(kind, cells), hole, fill)))
					if told(n) != told(of(kind, cells...)) {
						t.Fatalf("Get of %s, holes of %d: %s", told(of(kind, cells...)), hole, told(n))
					}
				}
			}
		}
	}
	// A leaf without cells whose top is anywhere.
	for top := range 256 {
		e := judgedGet(t, sealed(api.PgLeaf, 7, append([]byte{0, byte(top)}, many(9, 241)...)))
		if may := top >= 2 && top <= 243; may != (e == api.OK) {
			t.Fatalf("Get of a leaf without cells, top %d: error %d", top, e)
		}
	}
}

// P8.3: cells that lie in any order.
func TestGetAnyPlaces(t *testing.T) {
	r := rand.New(rand.NewPCG(1, 2))
	for range 500 {
		kind := cellKinds[r.IntN(2)]
		cells := full(kind, r.IntN(1000))
		list := bytesOf(kind, cells)
		body := some(r.IntN(1000), bodySize)
		body[0] = byte(len(list))
		at := bodySize
		need, _ := used(kind, cells)
		spare := mostRoom - need
		for _, i := range r.Perm(len(list)) {
			hole := r.IntN(spare + 1)
			spare -= hole
			at -= hole + len(list[i])
			body[2+2*i], body[3+2*i] = byte(at), byte(len(list[i]))
			copy(body[at:], list[i])
		}
		body[1] = byte(at - r.IntN(spare+1))
		n := got(t, sealed(byte(kind), 7, body))
		if told(n) != told(of(kind, cells...)) {
			t.Fatalf("Get of %s: %s", told(of(kind, cells...)), told(n))
		}
	}
}

// P8.3: bodies that slot.Parse refuses.
func TestGetNoBodies(t *testing.T) {
	for _, kind := range cellKinds {
		a, _ := cellBytes(kind, celled(kind, "a"))
		b, _ := cellBytes(kind, celled(kind, "b"))
		whole := cellsBody([][]byte{a, b}, 1, 0)
		got(t, sealed(byte(kind), 1, whole))
		for _, change := range []func([]byte){
			func(b []byte) { b[0] = 255 },
			func(b []byte) { b[1] = 244 },
			func(b []byte) { b[1] = 255 },
			func(b []byte) { b[1] = 5 },
			func(b []byte) { b[1] = b[4] + 1 },
			func(b []byte) { b[2] = 0 },
			func(b []byte) { b[2] = 242 },
			func(b []byte) { b[2] = 255 },
			func(b []byte) { b[3] = 79 },
			func(b []byte) { b[4], b[5] = b[2], b[3] },
		} {
			wrong := slices.Clone(whole)
			change(wrong)
			refusedGet(t, sealed(byte(kind), 1, wrong), api.ErrNode)
		}
	}
}

// P8.3: cells that are none, at each place among right ones; whose keys don't rise; of the other kind.
func TestGetWrongCells(t *testing.T) {
	for _, kind := range cellKinds {
		other := api.PgLeaf + api.PgInner - kind
		foreign, _ := cellBytes(other, celled(other, "m"))
		right, _ := cellBytes(kind, celled(kind, "m"))
		l, _ := cellBytes(kind, celled(kind, "l"))
		n, _ := cellBytes(kind, celled(kind, "n"))
		wrong := [][]byte{nil, {0}, {1}, foreign, append(slices.Clone(right), 0), right[:len(right)-1], right[1:], many(0, 8), many(255, 8), many(1, 78), l, n}
		if kind == api.PgLeaf {
			wrong = append(wrong, []byte{1, 'm', 129, 0, 'v'}, []byte{1, 'm', 41, 0, 0, 0, 0}, append([]byte{1, 'm', 41}, many(5, 41)...), []byte{0, 1, 'v'}, append(append([]byte{25}, many('m', 25)...), 0))
		} else {
			wrong = append(wrong, []byte{0, 0, 0, 0, 1, 'm'}, append([]byte{0, 0, 0, 1, 25}, many('m', 25)...))
		}
		got(t, sealed(byte(kind), 1, cellsBody([][]byte{l, right, n}, 0, 0)))
		for _, w := range wrong {
			refusedGet(t, sealed(byte(kind), 1, cellsBody([][]byte{l, w, n}, 0, 0)), api.ErrNode)
			judgedGet(t, sealed(byte(kind), 1, cellsBody([][]byte{w, right}, 0, 0)))
			judgedGet(t, sealed(byte(kind), 1, cellsBody([][]byte{right, w}, 0, 0)))
			judgedGet(t, sealed(byte(kind), 1, cellsBody([][]byte{w}, 0, 0)))
		}
		refusedGet(t, sealed(byte(kind), 1, cellsBody([][]byte{right, right}, 0, 0)), api.ErrNode)
		refusedGet(t, sealed(byte(kind), 1, cellsBody([][]byte{n, l}, 0, 0)), api.ErrNode)
		refusedGet(t, sealed(byte(kind), 1, cellsBody([][]byte{right, n, l}, 0, 0)), api.ErrNode)
	}
}

// P8.3: bodies of any bytes, and ones that are nearly such, against the plain reader.
func TestGetJunk(t *testing.T) {
	r := rand.New(rand.NewPCG(3, 4))
	all := nodes()
	taken := 0
	for i := range 20000 {
		n := all[r.IntN(len(all))]
		body := bodyOf(n)
		for range 1 + r.IntN(3) {
			body[r.IntN(bodySize)>>r.IntN(6)] = byte(r.IntN(256) >> r.IntN(8))
		}
		if i%10 == 0 {
			copy(body, some(i, r.IntN(bodySize)))
		}
		if judgedGet(t, sealed(byte(n.Kind), r.Uint64(), body)) == api.OK {
			taken++
		}
	}
	if taken < 1000 {
		t.Errorf("%d of 20000 are nodes", taken)
	}
}
