package pool_test

import (
	"bytes"
	"math"
	"slices"
	"testing"

	"scow/api"
	"scow/node"
	"scow/pool"
)

// beyond are numbers of no page that may be put in a transaction with so many pages.
func beyond(pages uint32) []uint32 {
	return []uint32{0, pages, pages + 1, pages + 256, pages + 65536, 512, 513, 1 << 31, math.MaxUint32 - 1, math.MaxUint32}
}

// refused fails unless a call ended so.
func refused(t *testing.T, e, want api.Errno) {
	t.Helper()
	if e != want {
		t.Fatalf("error %d, not %d", e, want)
	}
}

// P9.4: each kind at each page, with the LSN of the transaction, whatever the node's own is; once more at the same page.
func TestPut(t *testing.T) {
	for _, lsn := range []uint64{0, 6, api.MaxLSN, math.MaxUint64} {
		for n := range uint32(5) {
			p, q := begun(t, small(6), lsn), fresh(t, lsn)
			for range 4 {
				q.alloc()
			}
			for _, x := range slices.Concat(nodes(), nodes()) {
				refused(t, p.put(n+1, x), api.OK)
				refused(t, q.put(n+1, x), api.OK)
				got, err := p.x.Node(n + 1)
				x.LSN = lsn
				if err != nil || !node.Same(got, x) {
					t.Fatal(got, err, x)
				}
			}
		}
	}
}

// P9.4: page 0, those beyond, and ones that were given out just now.
func TestPutWhere(t *testing.T) {
	p := begun(t, small(5), 3)
	for range 3 {
		pages := p.x.Head().Pages
		for _, n := range beyond(pages) {
			refused(t, p.put(n, over(2)), api.ErrArg)
			for _, x := range noNodes() {
				refused(t, p.put(n, x), api.ErrArg) // ahead of the node's own error
			}
		}
		refused(t, p.put(pages-1, over(7)), api.OK)
		p.gives(pages)
	}
}

// P9.4: nodes that may not be, and ones that have no room; what was there stays.
func TestPutWhat(t *testing.T) {
	bad := noNodes()
	for _, p := range []*pair{begun(t, small(3), 4), fresh(t, 4)} {
		for range 2 {
			for i, x := range bad {
				want := api.ErrNode
				if i == len(bad)-1 {
					want = api.ErrRoom
				}
				x.LSN = uint64(i)
				refused(t, p.put(1, x), want)
			}
			refused(t, p.put(1, leaf("a", "b")), api.OK)
		}
	}
}

// What is handed to Put is neither changed nor kept, with its spare room.
func TestPutKeepsNothing(t *testing.T) {
	p := begun(t, small(5), 4)
	data, whole := withRoom([]byte("data"))
	key, _ := withRoom([]byte("key"))
	val, _ := withRoom([]byte("value"))
	cells := append(make([]api.Cell, 0, 4), api.Cell{Key: key, Size: 5, Val: val})
	p.put(1, api.Node{Kind: api.PgLeaf, Cells: cells})
	p.put(2, api.Node{Kind: api.PgOver, Data: data})
	if string(data) != "data" || !bytes.Equal(whole[4:], bytes.Repeat([]byte{0xaa}, 64)) || string(key) != "key" || string(val) != "value" {
		t.Fatal(whole, key, val)
	}
	if c := cells[:4]; c[0].Size != 5 || c[0].Over != 0 || c[0].Kid != 0 || c[1].Key != nil || c[1].Size != 0 {
		t.Fatal(c)
	}
	turn(data)
	turnNode(api.Node{Cells: cells})
	x, err := p.x.Node(1)
	if err != nil || len(x.Cells) != 1 || string(x.Cells[0].Key) != "key" || string(x.Cells[0].Val) != "value" {
		t.Fatal(x, err)
	}
	if x, err := p.x.Node(2); err != nil || string(x.Data) != "data" {
		t.Fatal(x, err)
	}
	p.judge()
}

// What is answered shares nothing with what is kept, nor with what is answered elsewhere.
func TestAnswersShareNothing(t *testing.T) {
	p := begun(t, small(6), 4)
	p.put(1, leaf("a", "b"))
	p.put(2, over(5))
	p.put(3, api.Node{Kind: api.PgInner, Cells: []api.Cell{{Kid: 1}, {Key: []byte("k"), Kid: 2}}})
	images, again := p.x.Changes(), p.x.Changes()
	for n := range uint32(5) {
		b, _ := p.x.Page(n)
		x, _ := p.x.Node(n)
		turn(b)
		turnNode(x)
	}
	p.judge()
	judgedImages(t, images, p.m.changes())
	for i := range again {
		turn(again[i].B)
		judgedImages(t, again[i+1:], p.m.changes()[i+1:])
	}
	clear(again)
	judgedImages(t, images, p.m.changes())
	p.judge()
	before, head := p.m.changes(), p.x.Head()
	p.put(1, leaf("c", "d"))
	p.put(2, over(6))
	p.free(4)
	judgedImages(t, images, before)
	if head == p.x.Head() {
		t.Fatal(head)
	}
}

// P9.4: free pages: one, several, in any order, each as it is asked; then ones that were not there.
func TestAllocFree(t *testing.T) {
	for _, free := range [][]uint32{nil, {2}, {5}, {2, 3, 4, 5}, {5, 4, 3, 2}, {4, 2, 5}, {1, 5, 3}} {
		p := begun(t, small(6, free...), 9)
		for i, n := range free {
			next := append(free, 0)[i+1]
			p.gives(n)
			if b, err := p.x.Page(n); err != nil || !bytes.Equal(b, freeBytes(20, next)) {
				t.Fatalf("page %d, ahead of being put: %x %v", n, b, err)
			}
			if h := p.x.Head(); h.Free != next || h.Pages != 6 {
				t.Fatal(h)
			}
		}
		for n := range uint32(3) {
			p.gives(6 + n)
			if h := p.x.Head(); h.Free != 0 || h.Pages != 7+n {
				t.Fatal(h)
			}
		}
		if l := p.x.Changes(); len(l) != 1 || l[0].N != 0 {
			t.Fatal(numbersOf(l))
		}
	}
}

// P9.4: a page that was not there is what the source has at that number, till it is put.
func TestAllocBeyondSource(t *testing.T) {
	pages := append(database(api.Head{Root: 1, Pages: 4}), bytesOf(over(50)), freeBytes(6, 2), some(1, 256))
	for _, s := range []pool.Source{pool.Mem{Pages: pages}, odd{pages, map[uint32]error{5: api.ErrIO}}} {
		p := begun(t, s, 9)
		for n := uint32(4); n < 9; n++ {
			p.gives(n)
			p.judgePage(n)
			b, err := p.x.Page(n)
			want, wantErr := s.Page(n)
			if wantErr != nil {
				want = nil
			}
			judgedError(t, err, "page", digits(n), within(wantErr))
			if !bytes.Equal(b, want) {
				t.Fatal(n, b, want)
			}
		}
		for n := uint32(8); n >= 4; n-- {
			p.put(n, over(int(n)))
		}
	}
	p := fresh(t, 3)
	p.gives(2)
	_, err := p.x.Page(2)
	judgedError(t, err, "page", "2", api.ErrNone)
	_, err = p.x.Node(2)
	judgedError(t, err, "page", "2", api.ErrNone)
	p.put(2, over(3))
}

// within is the number within an error; nil of none.
func within(err error) error {
	if err == nil {
		return nil
	}
	return api.Code(err)
}

// P9.4: a first free page that is none, or whose Next is beyond, or that cannot be read; it is asked each time.
func TestAllocRefused(t *testing.T) {
	with := func(b []byte) pool.Mem {
		m := small(6, 3, 4)
		m.Pages[3] = b
		return m
	}
	for _, x := range nodes() {
		if x.Kind != api.PgFree {
			begun(t, with(bytesOf(x)), 2).givesNone(api.ErrNode)
		}
	}
	for _, next := range []uint32{6, 7, 259, 511, 512, 65536, 65540, 1 << 31, math.MaxUint32} {
		begun(t, with(freeBytes(1, next)), 2).givesNone(api.ErrNode)
	}
	for _, next := range []uint32{0, 1, 2, 5} {
		begun(t, with(freeBytes(1, next)), 2).gives(3)
	}
	begun(t, with(sealed(5, 1, 0, 0, 0, 0, 1)), 2).givesNone(api.ErrNode)
	begun(t, with(sealed(0, 1)), 2).givesNone(api.ErrPage)
	begun(t, with(nil), 2).givesNone(api.ErrPage)
	begun(t, with(some(3, 256)), 2).givesNone(api.ErrCheck)
	begun(t, pool.Mem{Pages: small(6, 3, 4).Pages[:3]}, 2).givesNone(api.ErrNone)
	for err, want := range failures() {
		p := begun(t, odd{small(6, 3, 4).Pages, map[uint32]error{3: err}}, 2)
		n, got := p.x.Alloc()
		judgedError(t, got, "alloc", "", want)
		if n != 0 {
			t.Fatal(n)
		}
		p.judge()
		q := begun(t, odd{small(6, 3, 4).Pages, map[uint32]error{4: err}}, 2)
		q.gives(3)
		q.alloc()
	}
}

// P9.4: refused again and again, till the page is put as a free one, or one is taken back.
func TestAllocMended(t *testing.T) {
	m := small(6, 3, 4)
	m.Pages[3] = bytesOf(over(1))
	p := begun(t, m, 2)
	p.givesNone(api.ErrNode)
	p.givesNone(api.ErrNode)
	p.free(5)
	p.gives(5)
	p.givesNone(api.ErrNode)
	p.put(3, api.Node{Kind: api.PgFree, Next: 6})
	p.givesNone(api.ErrNode)
	p.put(3, api.Node{Kind: api.PgFree, Next: 5})
	p.gives(3)
	p.put(3, over(2))
	p.gives(5)
	p.givesNone(api.ErrNode)
	p.free(5)
	p.put(5, api.Node{Kind: api.PgFree})
	p.gives(5)
	p.gives(6)
	p.put(6, leaf("a", "b"))
}

// P9.4: up to MaxPages, and not one more; a page taken back is given out there too.
func TestAllocMost(t *testing.T) {
	p := begun(t, pool.Mem{Pages: [][]byte{headBytes(1, api.Head{Root: 1, Pages: 509})}}, 2)
	for n := uint32(509); n < 512; n++ {
		p.gives(n)
	}
	p.givesNone(api.ErrPages)
	p.givesNone(api.ErrPages)
	p.free(511)
	p.free(7)
	p.gives(7)
	p.gives(511)
	p.givesNone(api.ErrPages)
	q := begun(t, small(512, 511, 2), 2)
	q.gives(511)
	q.gives(2)
	q.givesNone(api.ErrPages)
	r := fresh(t, 1)
	for n := uint32(2); n < 512; n++ {
		if got, err := r.x.Alloc(); got != n || err != nil {
			t.Fatal(got, err)
		}
		r.m.alloc()
	}
	r.givesNone(api.ErrPages)
	refused(t, r.put(511, over(9)), api.OK)
	refused(t, r.setRoot(511), api.OK)
	refused(t, r.free(511), api.OK)
}

// P9.4: page 0, those beyond; several one behind the other, the last one first; one twice.
func TestFree(t *testing.T) {
	for _, p := range []*pair{begun(t, small(9), 3), begun(t, small(9, 4, 6), 3), begun(t, small(9, 5, 2, 3), 3)} {
		free := p.x.Head().Free
		for _, n := range beyond(9) {
			refused(t, p.free(n), api.ErrArg)
		}
		for _, n := range []uint32{7, 1, 8} {
			refused(t, p.free(n), api.OK)
			if b, err := p.x.Page(n); err != nil || !bytes.Equal(b, freeBytes(3, free)) || p.x.Head().Free != n {
				t.Fatalf("page %d: %x %v", n, b, err)
			}
			free = n
		}
		p.gives(8)
		p.gives(1)
		p.gives(7)
		p.alloc()
	}
	p := begun(t, small(4), 3)
	p.free(2)
	p.free(2)
	p.gives(2)
	p.gives(2)
}

// P9.4: a page that was given out shows what it was, also behind being put, taken back, and given out again.
func TestGivenOutShows(t *testing.T) {
	p := begun(t, small(5), 3)
	p.gives(5)
	p.put(5, over(1))
	p.free(5)
	p.gives(5)
	if b, _ := p.x.Page(5); !bytes.Equal(b, freeBytes(3, 0)) {
		t.Fatal(b)
	}
	p.free(2)
	p.free(5)
	p.put(5, leaf("a", "b")) // that breaks the list
	p.givesNone(api.ErrNode)
}

// P9.5: each page may be the root, whatever it is; page 0 and those beyond may not.
func TestSetRoot(t *testing.T) {
	for _, p := range []*pair{begun(t, small(6, 3), 3), fresh(t, 3)} {
		for range 3 {
			pages := p.x.Head().Pages
			for n := uint32(1); n < pages; n++ {
				refused(t, p.setRoot(n), api.OK)
				if p.x.Head().Root != n {
					t.Fatal(p.x.Head())
				}
				for _, n := range beyond(pages) {
					refused(t, p.setRoot(n), api.ErrArg)
				}
			}
			p.alloc()
		}
	}
}

// P9.5: at every edge of Entries and of by, and far beyond.
func TestCount(t *testing.T) {
	const most = 1 << 31
	bys := []int{0, 1, -1, 2, -2, 5, -5, most - 1, most, most + 1, most + 2, -most + 1, -most, -most - 1, -most - 2, 1 << 32, -1 << 32, 1<<32 + 1, 1<<40 + 1, -1<<40 - 1, math.MaxInt, math.MaxInt - 1, math.MinInt, math.MinInt + 1}
	var all []uint64
	for _, edge := range []uint64{0, 1 << 31, 1 << 32, 1 << 63, math.MaxUint64 - most} {
		all = append(all, edge-6, edge-5, edge-2, edge-1, edge, edge+1, edge+2, edge+5, edge+6)
	}
	for _, entries := range all {
		for _, by := range bys {
			p := begun(t, pool.Mem{Pages: [][]byte{headBytes(1, api.Head{Root: 1, Pages: 2, Entries: entries})}}, 2)
			if e := p.count(by); e != api.OK && e != api.ErrArg || e == api.OK && p.x.Head().Entries != entries+uint64(by) || e != api.OK && p.x.Head().Entries != entries {
				t.Fatal(entries, by, e, p.x.Head())
			}
			p.count(-by)
		}
	}
}

// P9.5: told by hand.
func TestCountTold(t *testing.T) {
	p := fresh(t, 2)
	refused(t, p.count(-1), api.ErrArg)
	refused(t, p.count(1<<31), api.OK)
	refused(t, p.count(1<<31+1), api.ErrArg)
	refused(t, p.count(-1<<31-1), api.ErrArg)
	refused(t, p.count(-1<<31), api.OK)
	refused(t, p.count(3), api.OK)
	refused(t, p.count(-4), api.ErrArg)
	refused(t, p.count(-1), api.OK)
	if h := p.x.Head(); h != (api.Head{Root: 1, Pages: 2, Entries: 2}) {
		t.Fatal(h)
	}
	p = begun(t, pool.Mem{Pages: [][]byte{headBytes(1, api.Head{Root: 1, Pages: 2, Entries: math.MaxUint64 - 1})}}, 2)
	refused(t, p.count(2), api.ErrArg)
	refused(t, p.count(1), api.OK)
	refused(t, p.count(1), api.ErrArg)
	refused(t, p.count(0), api.OK)
}

// P9.6: rising numbers, each page once, with what was put last.
func TestChanges(t *testing.T) {
	p := begun(t, small(400), 8)
	for _, n := range []uint32{300, 2, 399, 256, 1, 255, 257, 2, 128, 300} {
		p.put(n, over(int(n)+p.m.putSoFar()))
	}
	var numbers []uint32
	for _, i := range p.x.Changes() {
		numbers = append(numbers, i.N)
		if b, err := p.x.Page(i.N); err != nil || !bytes.Equal(b, i.B) {
			t.Fatal(i.N, err)
		}
	}
	if want := []uint32{0, 1, 2, 128, 255, 256, 257, 300, 399}; !slices.Equal(numbers, want) {
		t.Fatal(numbers)
	}
}

// putSoFar is how many pages were put.
func (m *model) putSoFar() int {
	n := 0
	for _, b := range m.put {
		if b != nil {
			n++
		}
	}
	return n
}

// On a nil transaction: each error is ErrNone, ahead of all others; all else is zero.
func TestNilTx(t *testing.T) {
	var x *pool.Tx
	for _, n := range []uint32{0, 1, 2, 512, math.MaxUint32} {
		b, err := x.Page(n)
		judgedError(t, err, "page", digits(n), api.ErrNone)
		y, err := x.Node(n)
		judgedError(t, err, "page", digits(n), api.ErrNone)
		if len(b) != 0 || !node.Same(y, api.Node{}) {
			t.Fatal(b, y)
		}
		for _, z := range append(nodes(), noNodes()...) {
			judgedError(t, x.Put(n, z), "put", digits(n), api.ErrNone)
		}
		judgedError(t, x.Free(n), "free", digits(n), api.ErrNone)
		judgedError(t, x.SetRoot(n), "root", digits(n), api.ErrNone)
	}
	for _, by := range []int{0, 1, -1, 1<<31 + 1, math.MinInt, math.MaxInt} {
		judgedError(t, x.Count(by), "count", "", api.ErrNone)
	}
	n, err := x.Alloc()
	judgedError(t, err, "alloc", "", api.ErrNone)
	if n != 0 || x.Head() != (api.Head{}) || len(x.Changes()) != 0 {
		t.Fatal(n, x.Head(), x.Changes())
	}
}

// The document's example.
func TestExample(t *testing.T) {
	p := fresh(t, 1)
	p.gives(2)
	p.free(2)
	p.gives(2)
	p.gives(3)
	h := api.Head{Root: 1, Pages: 4}
	judgedImages(t, p.x.Changes(), []api.Image{{N: 0, B: headBytes(1, h)}, {N: 1, B: leafBytes(1)}, {N: 2, B: freeBytes(1, 0)}})
	p.put(2, over(4))
	if l := p.x.Changes(); len(l) != 3 || !bytes.Equal(l[2].B, p.m.put[2]) {
		t.Fatal(numbersOf(l))
	}
}
