package pool_test

import (
	"bytes"
	"encoding/binary"
	"errors"
	"fmt"
	"hash/crc32"
	"math"
	"math/big"
	"math/rand/v2"
	"slices"
	"strconv"
	"testing"

	"scow/api"
	"scow/node"
	"scow/pool"
)

const mostPages = 512

// sealed is a page's bytes with a check sum reckoned by another program; behind what is told of its body stand zeros.
func sealed(kind byte, lsn uint64, body ...byte) []byte {
	b := append(binary.BigEndian.AppendUint64([]byte{kind}, lsn), body...)
	b = append(b, make([]byte, 252-len(b))...)
	return binary.BigEndian.AppendUint32(b, crc32.Checksum(b, crc32.MakeTable(crc32.Castagnoli)))
}

// headBytes is page 0 of that head, laid by hand.
func headBytes(lsn uint64, h api.Head) []byte {
	b := []byte("SCOW1")
	for _, n := range []uint32{h.Root, h.Pages, h.Free} {
		b = binary.BigEndian.AppendUint32(b, n)
	}
	return sealed(1, lsn, binary.BigEndian.AppendUint64(b, h.Entries)...)
}

// leafBytes is a leaf without cells, laid by hand: no cell, and its top is the body's end.
func leafBytes(lsn uint64) []byte {
	return sealed(3, lsn, 0, 243)
}

// freeBytes is a free page, laid by hand.
func freeBytes(lsn uint64, next uint32) []byte {
	return sealed(5, lsn, binary.BigEndian.AppendUint32(nil, next)...)
}

// bytesOf is the page of a node that may be.
func bytesOf(x api.Node) []byte {
	b, e := node.Put(x)
	if e != api.OK {
		panic(fmt.Sprint("no node: ", x, e))
	}
	return b
}

// over is a page of a chain, with bytes of its own.
func over(seed int) api.Node {
	return api.Node{Kind: api.PgOver, LSN: uint64(seed), Next: uint32(seed), Data: some(seed, 1+seed%238)}
}

// leaf is a leaf with one cell.
func leaf(key, val string) api.Node {
	return api.Node{Kind: api.PgLeaf, Cells: []api.Cell{{Key: []byte(key), Size: len(val), Val: []byte(val)}}}
}

// nodes are ones of each kind that may be, with LSNs of their own.
func nodes() []api.Node {
	return []api.Node{
		{Kind: api.PgHead, LSN: 3, Head: api.Head{Root: 4, Pages: 9, Free: 5, Entries: 6}},
		{Kind: api.PgInner, LSN: 1, Cells: []api.Cell{{Kid: 2}, {Key: []byte("m"), Kid: 3}}},
		{Kind: api.PgLeaf, LSN: math.MaxUint64},
		{Kind: api.PgLeaf, Cells: []api.Cell{{Key: []byte("a"), Size: 2, Val: []byte("xy")}, {Key: []byte("b"), Size: 41, Over: 9}}},
		{Kind: api.PgOver, LSN: api.MaxLSN, Next: 600, Data: []byte("data")},
		{Kind: api.PgFree, LSN: 8, Next: 0},
		{Kind: api.PgFree, LSN: 9, Next: math.MaxUint32},
	}
}

// noNodes are ones that may not be, and, behind them, ones that have no room.
func noNodes() []api.Node {
	var large []api.Cell
	for i := range 6 {
		large = append(large, api.Cell{Key: []byte{byte(i + 1)}, Size: 40, Val: make([]byte, 40)})
	}
	return []api.Node{
		{},
		{Kind: 6},
		{Kind: api.PgInner},
		{Kind: api.PgHead},
		{Kind: api.PgFree, Data: []byte{1}},
		{Kind: api.PgOver, Next: 1},
		{Kind: api.PgLeaf, Next: 1},
		{Kind: api.PgLeaf, Cells: []api.Cell{{Key: []byte("b")}, {Key: []byte("a")}}},
		{Kind: api.PgLeaf, Cells: large},
	}
}

// database is a head's pages, with a leaf as page 1; the free ones are chained as they are told, each other is a page of a chain.
func database(h api.Head, free ...uint32) [][]byte {
	if len(free) > 0 {
		h.Free = free[0]
	}
	p := [][]byte{bytesOf(api.Node{Kind: api.PgHead, LSN: 40, Head: h}), bytesOf(leaf("k", "v"))}
	for i := 2; i < int(h.Pages); i++ {
		p = append(p, bytesOf(over(i)))
	}
	for i, n := range free {
		next := append(free, 0)[i+1]
		p[n] = freeBytes(20, next)
	}
	return p
}

// small is a database of so many pages, free as told.
func small(pages uint32, free ...uint32) pool.Mem {
	return pool.Mem{Pages: database(api.Head{Root: 1, Pages: pages, Entries: 1}, free...)}
}

// odd is a source that has at some places an error, or something beside one, and that hands out its own memory.
type odd struct {
	pages [][]byte
	fails map[uint32]error
}

func (o odd) Page(n uint32) ([]byte, error) {
	if err, ok := o.fails[n]; ok {
		return []byte("beside an error"), err
	}
	if int(n) >= len(o.pages) {
		return nil, api.ErrNone
	}
	return o.pages[n], nil
}

// alien is an error of a type that nobody here knows.
type alien struct{ within error }

func (a alien) Error() string { return "alien" }
func (a alien) Unwrap() error { return a.within }

// failures are errors of a source, and the number within each.
func failures() map[error]api.Errno {
	return map[error]api.Errno{
		api.ErrIO:       api.ErrIO,
		api.ErrNone:     api.ErrNone,
		api.Errno(-7):   -7,
		api.Errno(4711): 4711,
		api.OK:          api.OK,
		&api.Fault{Op: "read", Name: "file", Err: api.ErrSector}:               api.ErrSector,
		&api.Fault{Op: "page", Name: "3", Err: &api.Fault{Err: api.ErrBroken}}: api.ErrBroken,
		alien{alien{api.ErrFull}}:                                              api.ErrFull,
		alien{}:                                                                api.ErrOther,
		errors.New("of no number"):                                             api.ErrOther,
		&api.Fault{Op: "alloc", Name: "1", Err: errors.New("of no number too")}: api.ErrOther,
		errors.Join(errors.New("one"), api.ErrCheck):                            api.ErrCheck,
	}
}

// judgedError fails unless err is a Fault of just these parts; of no error, if none is wanted.
func judgedError(t *testing.T, err error, op, name string, want error) {
	t.Helper()
	if want == nil {
		if err != nil {
			t.Fatalf("%s of %q: %v", op, name, err)
		}
		return
	}
	f, ok := err.(*api.Fault)
	if !ok || f == nil {
		t.Fatalf("%s of %q: %v is no *api.Fault, and %v is wanted", op, name, err, want)
	}
	if f.Op != op || f.Name != name || f.Err != want || api.Code(err) != api.Code(want) {
		t.Fatalf("%s of %q: %q %q %v, and %v is wanted", op, name, f.Op, f.Name, f.Err, want)
	}
}

// digits is a page's number as it stands in a Fault.
func digits(n uint32) string {
	return fmt.Sprintf("%d", n)
}

// model is a transaction by the document's words, its pages side by side. Its errors are Errnos.
type model struct {
	source  pool.Source
	lsn     uint64
	head    api.Head
	changed bool
	put     [mostPages][]byte
}

func (m *model) page(n uint32) ([]byte, error) {
	switch {
	case n == 0 && m.changed:
		return headBytes(m.lsn, m.head), nil
	case n >= m.head.Pages:
		return nil, api.ErrNone
	case m.put[n] != nil:
		return m.put[n], nil
	case m.source == nil:
		return nil, api.ErrNone
	}
	b, err := m.source.Page(n)
	if err != nil {
		return nil, api.Code(err)
	}
	return b, nil
}

func (m *model) node(n uint32) (api.Node, error) {
	b, err := m.page(n)
	if err != nil {
		return api.Node{}, err
	}
	x, e := node.Get(b)
	if e != api.OK {
		return api.Node{}, e
	}
	return x, nil
}

func (m *model) store(n uint32, x api.Node) error {
	if n == 0 || n >= m.head.Pages {
		return api.ErrArg
	}
	x.LSN = m.lsn
	b, e := node.Put(x)
	if e != api.OK {
		return e
	}
	m.put[n] = b
	m.changed = true
	return nil
}

func (m *model) alloc() (uint32, error) {
	n := m.head.Free
	if n == 0 {
		if m.head.Pages >= mostPages {
			return 0, api.ErrPages
		}
		m.head.Pages, m.changed = m.head.Pages+1, true
		return m.head.Pages - 1, nil
	}
	x, err := m.node(n)
	if err != nil {
		return 0, err
	}
	if x.Kind != api.PgFree || x.Next >= m.head.Pages {
		return 0, api.ErrNode
	}
	m.head.Free, m.changed = x.Next, true
	return n, nil
}

func (m *model) free(n uint32) error {
	if n == 0 || n >= m.head.Pages {
		return api.ErrArg
	}
	m.put[n] = freeBytes(m.lsn, m.head.Free)
	m.head.Free, m.changed = n, true
	return nil
}

func (m *model) setRoot(n uint32) error {
	if n == 0 || n >= m.head.Pages {
		return api.ErrArg
	}
	m.head.Root, m.changed = n, true
	return nil
}

func (m *model) count(by int) error {
	sum := new(big.Int).SetUint64(m.head.Entries)
	sum.Add(sum, big.NewInt(int64(by)))
	if !sum.IsUint64() || by > 2147483648 || by < -2147483648 {
		return api.ErrArg
	}
	m.head.Entries, m.changed = sum.Uint64(), true
	return nil
}

func (m *model) changes() []api.Image {
	var l []api.Image
	if m.changed {
		l = append(l, api.Image{N: 0, B: headBytes(m.lsn, m.head)})
	}
	for n, b := range m.put {
		if b != nil {
			l = append(l, api.Image{N: uint32(n), B: b})
		}
	}
	return l
}

// pair is a transaction and its model, to which the same things are done; each call is judged, and what it left.
type pair struct {
	t *testing.T
	x *pool.Tx
	m *model
}

// begun is a pair over a source whose page 0 is a head.
func begun(t *testing.T, s pool.Source, lsn uint64) *pair {
	t.Helper()
	x, err := pool.Begin(s, lsn)
	judgedError(t, err, "begin", "", nil)
	b, err := s.Page(0)
	if err != nil {
		t.Fatal(err)
	}
	head, e := node.Get(b)
	if e != api.OK {
		t.Fatal(e)
	}
	p := &pair{t, x, &model{source: s, lsn: lsn, head: head.Head}}
	p.judge()
	return p
}

// fresh is a pair without a source.
func fresh(t *testing.T, lsn uint64) *pair {
	t.Helper()
	p := &pair{t, pool.Fresh(lsn), &model{lsn: lsn, head: api.Head{Root: 1, Pages: 2}, changed: true}}
	p.m.put[1] = leafBytes(lsn)
	p.judge()
	return p
}

// judge fails unless what the transaction shows is as it is to be.
func (p *pair) judge() {
	p.t.Helper()
	if p.x.Head() != p.m.head {
		p.t.Fatalf("head %v, not %v", p.x.Head(), p.m.head)
	}
	p.judgePages()
	judgedImages(p.t, p.x.Changes(), p.m.changes())
}

// judgePages judges the first pages, those about the end, and ones far beyond.
func (p *pair) judgePages() {
	p.t.Helper()
	end := p.m.head.Pages
	for n := range min(end, 9) {
		p.judgePage(n)
	}
	for _, n := range []uint32{end - 1, end, end + 1, 511, 512, 513, 65536, 1 << 31, math.MaxUint32} {
		p.judgePage(n)
	}
}

// judgePage fails unless Page and Node of n answer as they are to.
func (p *pair) judgePage(n uint32) {
	p.t.Helper()
	b, err := p.x.Page(n)
	want, wantErr := p.m.page(n)
	judgedError(p.t, err, "page", digits(n), wantErr)
	if !bytes.Equal(b, want) {
		p.t.Fatalf("page %d: %x, not %x", n, b, want)
	}
	x, err := p.x.Node(n)
	wantX, wantErr := p.m.node(n)
	judgedError(p.t, err, "page", digits(n), wantErr)
	if !node.Same(x, wantX) {
		p.t.Fatalf("node %d: %v, not %v", n, x, wantX)
	}
}

// judgedImages fails unless two lists of pages are the same.
func judgedImages(t *testing.T, l, want []api.Image) {
	t.Helper()
	if !slices.EqualFunc(l, want, func(a, b api.Image) bool { return a.N == b.N && bytes.Equal(a.B, b.B) }) {
		t.Fatalf("changes %v, not %v", numbersOf(l), numbersOf(want))
	}
}

// numbersOf are the pages' numbers, and their sums.
func numbersOf(l []api.Image) string {
	s := ""
	for _, i := range l {
		s += strconv.Itoa(int(i.N)) + ":" + strconv.Itoa(int(crc32.ChecksumIEEE(i.B))) + " "
	}
	return s
}

// put puts x as page n, and tells how that ended.
func (p *pair) put(n uint32, x api.Node) api.Errno {
	p.t.Helper()
	err, want := p.x.Put(n, x), p.m.store(n, x)
	judgedError(p.t, err, "put", digits(n), want)
	p.judge()
	return api.Code(err)
}

// alloc gives a page out, and tells how that ended.
func (p *pair) alloc() (uint32, api.Errno) {
	p.t.Helper()
	n, err := p.x.Alloc()
	wantN, want := p.m.alloc()
	judgedError(p.t, err, "alloc", "", want)
	if n != wantN {
		p.t.Fatalf("alloc: %d, not %d", n, wantN)
	}
	p.judge()
	return n, api.Code(err)
}

// gives fails unless just this page is given out.
func (p *pair) gives(want uint32) {
	p.t.Helper()
	if n, e := p.alloc(); n != want || e != api.OK {
		p.t.Fatalf("alloc: %d, error %d, not %d", n, e, want)
	}
}

// givesNone fails unless none is given out, for that reason.
func (p *pair) givesNone(want api.Errno) {
	p.t.Helper()
	if n, e := p.alloc(); n != 0 || e != want {
		p.t.Fatalf("alloc: %d, error %d, not error %d", n, e, want)
	}
}

// free takes page n back, and tells how that ended.
func (p *pair) free(n uint32) api.Errno {
	p.t.Helper()
	err, want := p.x.Free(n), p.m.free(n)
	judgedError(p.t, err, "free", digits(n), want)
	p.judge()
	return api.Code(err)
}

// setRoot makes n the root, and tells how that ended.
func (p *pair) setRoot(n uint32) api.Errno {
	p.t.Helper()
	err, want := p.x.SetRoot(n), p.m.setRoot(n)
	judgedError(p.t, err, "root", digits(n), want)
	p.judge()
	return api.Code(err)
}

// count tells of so many entries more, and tells how that ended.
func (p *pair) count(by int) api.Errno {
	p.t.Helper()
	err, want := p.x.Count(by), p.m.count(by)
	judgedError(p.t, err, "count", "", want)
	p.judge()
	return api.Code(err)
}

// some are so many bytes, the same ones for the same seed.
func some(seed, size int) []byte {
	r := rand.NewPCG(uint64(seed), uint64(size))
	b := make([]byte, size)
	for i := range b {
		b[i] = byte(r.Uint64())
	}
	return b
}

// withRoom is p with spare room behind it, and the whole that it lies in.
func withRoom(p []byte) (part, whole []byte) {
	whole = append(slices.Clone(p), bytes.Repeat([]byte{0xaa}, 64)...)
	return whole[:len(p)], whole
}

// turn makes each byte of b another one, those of its spare room too.
func turn(b []byte) {
	b = b[:cap(b)]
	for i := range b {
		b[i] ^= 255
	}
}

// turnNode makes another one of all that a node has.
func turnNode(x api.Node) {
	turn(x.Data)
	for i, c := range x.Cells {
		turn(c.Key)
		turn(c.Val)
		x.Cells[i] = api.Cell{Kid: 99}
	}
}
