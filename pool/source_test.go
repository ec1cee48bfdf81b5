package pool_test

import (
	"bytes"
	"math"
	"testing"

	"scow/api"
	"scow/pool"
)

// P9.1: a page of every place, whatever its bytes, and none of another.
func TestMem(t *testing.T) {
	for _, m := range []pool.Mem{{}, {Pages: [][]byte{}}, {Pages: [][]byte{[]byte("a")}}, {Pages: [][]byte{nil, []byte("b"), {}, some(1, 256), some(2, 300)}}, small(30)} {
		size := uint32(len(m.Pages))
		for n := range size {
			b, err := m.Page(n)
			judgedError(t, err, "page", digits(n), nil)
			if !bytes.Equal(b, m.Pages[n]) {
				t.Fatalf("page %d: %x, not %x", n, b, m.Pages[n])
			}
		}
		for _, n := range []uint32{size, size + 1, size + 256, 511, 512, 65536 + size, 1 << 31, math.MaxUint32 - 1, math.MaxUint32} {
			b, err := m.Page(n)
			judgedError(t, err, "page", digits(n), api.ErrNone)
			if len(b) != 0 {
				t.Fatalf("page %d: an error, and %x", n, b)
			}
		}
	}
}

// P9.1: places that are not there ahead of ones that are, and a list whose spare room has pages.
func TestMemBeyond(t *testing.T) {
	whole := [][]byte{[]byte("a"), []byte("b"), []byte("c")}
	m := pool.Mem{Pages: whole[:1]}
	_, err := m.Page(1)
	judgedError(t, err, "page", "1", api.ErrNone)
	m = pool.Mem{Pages: whole[1:]}
	if b, err := m.Page(0); err != nil || string(b) != "b" {
		t.Fatal(string(b), err)
	}
}

// What Mem answers is new memory, and it changes none of its own.
func TestMemSharesNothing(t *testing.T) {
	part, whole := withRoom([]byte("page"))
	m := pool.Mem{Pages: [][]byte{part}}
	a, _ := m.Page(0)
	b, _ := m.Page(0)
	turn(a)
	if string(b) != "page" || string(part) != "page" || !bytes.Equal(whole[4:], bytes.Repeat([]byte{0xaa}, 64)) {
		t.Fatalf("%q %q %x", b, part, whole)
	}
	turn(whole)
	if string(b) != "page" {
		t.Fatalf("%q", b)
	}
}

// P9.2: a fresh one's head, its leaf, that they are changes, and that nothing else is there.
func TestFresh(t *testing.T) {
	for _, lsn := range []uint64{0, 1, 2, 255, 0x0102030405060708, api.MaxLSN, math.MaxUint64} {
		p := fresh(t, lsn)
		if h := p.x.Head(); h != (api.Head{Root: 1, Pages: 2}) {
			t.Fatal(h)
		}
		judgedImages(t, p.x.Changes(), []api.Image{{N: 0, B: headBytes(lsn, api.Head{Root: 1, Pages: 2})}, {N: 1, B: leafBytes(lsn)}})
		x, err := p.x.Node(1)
		if err != nil || x.Kind != api.PgLeaf || x.LSN != lsn || len(x.Cells) != 0 {
			t.Fatal(x, err)
		}
		_, err = p.x.Page(2)
		judgedError(t, err, "page", "2", api.ErrNone)
	}
}

// P9.2: two transactions have nothing in common.
func TestFreshAlone(t *testing.T) {
	p, q := fresh(t, 1), fresh(t, 2)
	p.gives(2)
	p.put(2, over(7))
	p.put(1, leaf("a", "b"))
	p.free(2)
	p.count(4)
	q.judge()
	q.gives(2)
	p.judge()
}

// P9.2: over heads of all kinds, whatever else is there.
func TestBegin(t *testing.T) {
	for _, h := range []api.Head{{Root: 1, Pages: 2}, {Root: 1, Pages: 2, Free: 1, Entries: math.MaxUint64}, {Root: 511, Pages: 512, Free: 511, Entries: 9}, {Root: 2, Pages: 300, Free: 299, Entries: 1 << 40}} {
		for _, s := range []pool.Source{pool.Mem{Pages: [][]byte{headBytes(77, h)}}, pool.Mem{Pages: database(h)}, &pool.Mem{Pages: database(h)}, odd{pages: database(h)}} {
			for _, lsn := range []uint64{0, 1, 77, api.MaxLSN, math.MaxUint64} {
				p := begun(t, s, lsn)
				if p.x.Head() != h || len(p.x.Changes()) != 0 {
					t.Fatal(p.x.Head(), p.x.Changes())
				}
			}
		}
	}
}

// refusedBegin fails unless there is no transaction over s, for that reason.
func refusedBegin(t *testing.T, s pool.Source, want api.Errno) {
	t.Helper()
	for _, lsn := range []uint64{0, 1, math.MaxUint64} {
		x, err := pool.Begin(s, lsn)
		judgedError(t, err, "begin", "", want)
		if x != nil {
			t.Fatalf("begin: %v, and a transaction", err)
		}
	}
}

// P9.2: over a source whose page 0 is no head.
func TestBeginRefused(t *testing.T) {
	refusedBegin(t, nil, api.ErrNone)
	refusedBegin(t, pool.Mem{}, api.ErrNone)
	refusedBegin(t, &pool.Mem{}, api.ErrNone)
	for _, x := range nodes() {
		if x.Kind != api.PgHead {
			refusedBegin(t, pool.Mem{Pages: [][]byte{bytesOf(x), headBytes(1, api.Head{Root: 1, Pages: 2})}}, api.ErrNode)
		}
	}
	head := headBytes(1, api.Head{Root: 1, Pages: 2})
	for _, b := range [][]byte{nil, {}, head[:255], append(bytes.Clone(head), 0), some(1, 12)} {
		refusedBegin(t, pool.Mem{Pages: [][]byte{b}}, api.ErrPage)
	}
	refusedBegin(t, pool.Mem{Pages: [][]byte{make([]byte, 256)}}, api.ErrCheck)
	refusedBegin(t, pool.Mem{Pages: [][]byte{sealed(6, 1)}}, api.ErrPage)
	refusedBegin(t, pool.Mem{Pages: [][]byte{sealed(1, 1)}}, api.ErrNode)
	for _, h := range []api.Head{{}, {Root: 1, Pages: 1}, {Root: 0, Pages: 2}, {Root: 2, Pages: 2}, {Root: 1, Pages: 513}, {Root: 1, Pages: 2, Free: 2}} {
		refusedBegin(t, pool.Mem{Pages: [][]byte{headBytes(1, h)}}, api.ErrNode)
	}
	for i := range head {
		b := bytes.Clone(head)
		b[i] ^= 4
		refusedBegin(t, pool.Mem{Pages: [][]byte{b}}, api.ErrCheck)
	}
}

// P9.2: the number within the source's error is told, wherever it is within it.
func TestBeginOverErrors(t *testing.T) {
	for err, want := range failures() {
		refusedBegin(t, odd{small(4).Pages, map[uint32]error{0: err}}, want)
	}
}

// P9.2, P9.3: Begin reads page 0 alone; of what the source has at another place no error comes but of that page.
func TestErrorsOfPages(t *testing.T) {
	for err, want := range failures() {
		p := begun(t, odd{small(6).Pages, map[uint32]error{2: err, 4: err, 6: err}}, 3)
		for _, n := range []uint32{2, 4} {
			b, err := p.x.Page(n)
			judgedError(t, err, "page", digits(n), want)
			x, err := p.x.Node(n)
			judgedError(t, err, "page", digits(n), want)
			if len(b) != 0 || x.Kind != 0 || x.LSN != 0 || len(x.Data) != 0 || len(x.Cells) != 0 {
				t.Fatal(b, x)
			}
		}
		p.gives(6)
		_, err := p.x.Page(6)
		judgedError(t, err, "page", "6", want)
		p.put(2, over(9))
		p.put(6, over(5))
		judgedError(t, p.x.Put(4, api.Node{}), "put", "4", api.ErrNode)
		p.judge()
	}
}

// rude is a source that panics at pages from one on, and whose error at page 1 does when it is asked.
type rude struct {
	pages [][]byte
	from  uint32
}

func (r rude) Page(n uint32) ([]byte, error) {
	if n == 1 {
		return r.pages[1], (*api.Fault)(nil)
	}
	if n >= r.from {
		panic("no such page")
	}
	return r.pages[n], nil
}

// No call panics, whatever the source does; what it does not tell is an error without a number.
func TestRudeSource(t *testing.T) {
	refusedBegin(t, rude{from: 0}, api.ErrOther)
	refusedBegin(t, rude{from: 7}, api.ErrOther)
	refusedBegin(t, (*pool.Mem)(nil), api.ErrOther)
	x, err := pool.Begin(rude{small(6, 4).Pages, 3}, 1)
	judgedError(t, err, "begin", "", nil)
	for _, n := range []uint32{1, 3, 5} {
		b, err := x.Page(n)
		judgedError(t, err, "page", digits(n), api.ErrOther)
		if len(b) != 0 {
			t.Fatal(b)
		}
		_, err = x.Node(n)
		judgedError(t, err, "page", digits(n), api.ErrOther)
	}
	n, err := x.Alloc()
	judgedError(t, err, "alloc", "", api.ErrOther)
	if n != 0 || len(x.Changes()) != 0 {
		t.Fatal(n, x.Changes())
	}
}

// P9.3: page 0 ahead of a change is the source's, byte by byte, with its own LSN; behind one it is the head's, with the transaction's, also where all is as it was.
func TestPageOfHead(t *testing.T) {
	h := api.Head{Root: 1, Pages: 5, Entries: 3}
	source := pool.Mem{Pages: database(h, 4)}
	h.Free = 4
	changes := []func(*pair){
		func(p *pair) { p.put(2, over(2)) },
		func(p *pair) { p.put(2, over(8)) },
		func(p *pair) { p.count(0) },
		func(p *pair) { p.count(5) },
		func(p *pair) { p.setRoot(1) },
		func(p *pair) { p.setRoot(3) },
		func(p *pair) { p.alloc() },
		func(p *pair) { p.free(2) },
		func(p *pair) { p.alloc(); p.free(4) },
	}
	for i, change := range changes {
		p := begun(t, source, 90)
		if b, err := p.x.Page(0); err != nil || !bytes.Equal(b, headBytes(40, h)) {
			t.Fatalf("change %d: %x %v", i, b, err)
		}
		change(p)
		if b, err := p.x.Page(0); err != nil || !bytes.Equal(b, headBytes(90, p.m.head)) {
			t.Fatalf("change %d: %x %v", i, b, err)
		}
		x, err := p.x.Node(0)
		if err != nil || x.Kind != api.PgHead || x.LSN != 90 || x.Head != p.x.Head() {
			t.Fatalf("change %d: %v %v", i, x, err)
		}
		if l := p.x.Changes(); len(l) == 0 || l[0].N != 0 {
			t.Fatalf("change %d: %v", i, l)
		}
	}
}

// P9.3: what was asked, or refused, is no change.
func TestPageOfHeadUnchanged(t *testing.T) {
	p := begun(t, small(5, 3, 2), 90)
	for _, n := range []uint32{0, 5, 6, math.MaxUint32} {
		p.put(n, over(1))
		p.free(n)
		p.setRoot(n)
	}
	for _, x := range noNodes() {
		p.put(1, x)
	}
	p.count(-2)
	p.count(1<<31 + 1)
	q := begun(t, pool.Mem{Pages: database(api.Head{Root: 1, Pages: 5, Free: 2})}, 90)
	q.givesNone(api.ErrNode)
	r := begun(t, pool.Mem{Pages: [][]byte{headBytes(40, api.Head{Root: 1, Pages: 512})}}, 90)
	r.givesNone(api.ErrPages)
	for _, p := range []*pair{p, q, r} {
		if b, _ := p.x.Page(0); len(p.x.Changes()) != 0 || b[8] != 40 {
			t.Fatal(b, p.x.Changes())
		}
	}
}

// P9.3: page 0 is asked of the source each time, till it is changed.
func TestPageOfHeadOfSource(t *testing.T) {
	fails := map[uint32]error{}
	p := begun(t, odd{small(4).Pages, fails}, 6)
	fails[0] = api.ErrIO
	_, err := p.x.Page(0)
	judgedError(t, err, "page", "0", api.ErrIO)
	_, err = p.x.Node(0)
	judgedError(t, err, "page", "0", api.ErrIO)
	p.judge()
	p.count(1)
	if _, err := p.x.Page(0); err != nil {
		t.Fatal(err)
	}
}

// P9.3: the source's pages, whatever they are; beyond Pages none, though the source has some there.
func TestPagesOfSource(t *testing.T) {
	pages := append(database(api.Head{Root: 1, Pages: 9}), freeBytes(1, 0), bytesOf(over(3)))
	pages[2] = sealed(3, 5)
	pages[3] = nil
	pages[4] = some(4, 256)
	pages[5] = headBytes(2, api.Head{Root: 1, Pages: 2})
	pages[6] = pages[6][:255]
	for _, s := range []pool.Source{pool.Mem{Pages: pages}, odd{pages: pages}, pool.Mem{Pages: pages[:8]}} {
		p := begun(t, s, 4)
		for n, want := range []api.Errno{0, 0, api.ErrNode, api.ErrPage, api.ErrCheck, 0, api.ErrPage, 0} {
			b, err := p.x.Page(uint32(n))
			if err != nil || !bytes.Equal(b, pages[n]) {
				t.Fatal(n, b, err)
			}
			_, err = p.x.Node(uint32(n))
			if api.Code(err) != want {
				t.Fatal(n, err)
			}
		}
		for _, n := range []uint32{9, 10} {
			_, err := p.x.Page(n)
			judgedError(t, err, "page", digits(n), api.ErrNone)
			_, err = p.x.Node(n)
			judgedError(t, err, "page", digits(n), api.ErrNone)
		}
	}
}

// P9.3: a transaction is a source too.
func TestTxOverTx(t *testing.T) {
	low := fresh(t, 5)
	low.gives(2)
	low.put(2, over(4))
	high := begun(t, low.x, 6)
	high.put(1, leaf("a", "b"))
	high.gives(3)
	high.free(2)
	high.gives(2)
	low.judge()
	low.gives(3)
	low.put(3, over(6))
	high.judge()
	low.free(3)
	high.judge()
}

// What is read from a source is new memory, though the source hands out its own, and is not kept.
func TestSourceSharesNothing(t *testing.T) {
	pages := database(api.Head{Root: 1, Pages: 5}, 3)
	clean := database(api.Head{Root: 1, Pages: 5}, 3)
	for i := range pages {
		pages[i], _ = withRoom(pages[i])
	}
	p := begun(t, odd{pages: pages}, 6)
	for n := range uint32(5) {
		b, _ := p.x.Page(n)
		turn(b)
		x, _ := p.x.Node(n)
		turnNode(x)
		if !bytes.Equal(pages[n], clean[n]) || !bytes.Equal(pages[n][:320][256:], bytes.Repeat([]byte{0xaa}, 64)) {
			t.Fatalf("page %d: %x", n, pages[n])
		}
	}
	p.judge()
	head := p.x.Head()
	pages[0] = headBytes(3, api.Head{Root: 2, Pages: 4, Entries: 8})
	if p.x.Head() != head {
		t.Fatal(p.x.Head())
	}
	p.judge()
	p.gives(3)
}
