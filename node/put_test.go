package node_test

import (
	"encoding/hex"
	"math"
	"slices"
	"strings"
	"testing"

	"scow/api"
	"scow/node"
	"scow/page"
)

// P8.2: the bodies of each kind, told by hand.
func TestPutTold(t *testing.T) {
	for _, c := range []struct {
		n          api.Node
		head, tail string // of the body; all between is 0
	}{
		{api.Node{Kind: api.PgHead, Head: api.Head{Root: 1, Pages: 2}}, "53434f5731" + "00000001" + "00000002" + "00000000" + "0000000000000000", ""},
		{api.Node{Kind: api.PgHead, LSN: 9, Head: api.Head{Root: 258, Pages: 511, Free: 259, Entries: 0x0102030405060708}}, "53434f5731" + "00000102" + "000001ff" + "00000103" + "0102030405060708", ""},
		{api.Node{Kind: api.PgLeaf}, "00f3", ""},
		{api.Node{Kind: api.PgLeaf, LSN: 1, Cells: []api.Cell{inline("a", "xy")}}, "01ee" + "ee05", "0161027879"},
		{api.Node{Kind: api.PgLeaf, Cells: []api.Cell{inline("a", "xy"), chained("b", 300, 5)}}, "02e6" + "ee05" + "e608", "0162ac0200000005" + "0161027879"},
		{api.Node{Kind: api.PgInner, Cells: []api.Cell{kid("", 3)}}, "01ee" + "ee05", "0000000300"},
		{api.Node{Kind: api.PgInner, LSN: math.MaxUint64, Cells: []api.Cell{kid("", 3), kid("k", 258), kid("kk", 1)}}, "03e1" + "ee05" + "e806" + "e107", "00000001026b6b" + "00000102016b" + "0000000300"},
		{api.Node{Kind: api.PgOver, Next: 0x01020304, Data: []byte("abc")}, "01020304" + "03" + "616263", ""},
		{api.Node{Kind: api.PgOver, Data: many(7, 238)}, "00000000" + "ee" + strings.Repeat("07", 238), ""},
		{api.Node{Kind: api.PgFree}, "", ""},
		{api.Node{Kind: api.PgFree, LSN: 77, Next: 511}, "000001ff", ""},
	} {
		body := c.head + strings.Repeat("00", 243-(len(c.head)+len(c.tail))/2) + c.tail
		bytes, _ := hex.DecodeString(body)
		want, _ := page.Seal(api.Page{Kind: c.n.Kind, LSN: c.n.LSN, Body: bytes})
		b, e := node.Put(c.n)
		if e != api.OK || string(b) != string(want) {
			t.Errorf("Put of %s: %x, error %d, not %x", told(c.n), b, e, want)
		}
		if string(want) != string(sealed(byte(c.n.Kind), c.n.LSN, bytes)) {
			t.Errorf("%x is sealed in two ways", bytes)
		}
	}
}

// P8.1, P8.2: nodes of each kind that may be.
func TestPutOfMany(t *testing.T) {
	for _, n := range nodes() {
		for _, lsn := range lsns {
			n.LSN = lsn
			if e := judgedPut(t, n); e != api.OK {
				t.Fatalf("Put of %s: error %d", told(n), e)
			}
		}
	}
}

// P8.1: no other kind, whatever the node has.
func TestPutNoKinds(t *testing.T) {
	for _, n := range append(nodes(), api.Node{}) {
		for _, kind := range noKinds {
			n.Kind = kind
			refusedPut(t, n, api.ErrNode)
		}
	}
}

// P8.1: what one kind is, another one is not, but by its own words.
func TestPutOtherKinds(t *testing.T) {
	for _, n := range nodes() {
		was := n.Kind
		for _, kind := range kinds {
			n.Kind = kind
			judgedPut(t, n)
		}
		if was == api.PgOver {
			n.Kind = api.PgFree
			refusedPut(t, n, api.ErrNode)
		}
	}
}

// plainest is a node of each kind that may be, with all that is not told zero.
func plainest() []api.Node {
	return []api.Node{
		{Kind: api.PgHead, Head: api.Head{Root: 1, Pages: 3, Free: 2, Entries: 1}},
		{Kind: api.PgLeaf},
		{Kind: api.PgLeaf, Cells: []api.Cell{inline("a", "x")}},
		{Kind: api.PgInner, Cells: []api.Cell{kid("a", 1)}},
		{Kind: api.PgOver, Data: []byte("x")},
		{Kind: api.PgOver, Next: 1, Data: []byte("x")},
		{Kind: api.PgFree},
		{Kind: api.PgFree, Next: 1},
	}
}

// P8.1: all that a kind does not tell is zero, or empty: each such part alone, and all ways together.
func TestPutUntold(t *testing.T) {
	parts := []struct {
		told []int // by which kinds
		set  func(*api.Node)
	}{
		{[]int{api.PgLeaf, api.PgInner}, func(n *api.Node) { n.Cells = []api.Cell{{}} }},
		{[]int{api.PgLeaf, api.PgInner}, func(n *api.Node) { n.Cells = []api.Cell{inline("a", "x")} }},
		{[]int{api.PgLeaf, api.PgInner}, func(n *api.Node) { n.Cells = []api.Cell{kid("a", 1)} }},
		{[]int{api.PgOver, api.PgFree}, func(n *api.Node) { n.Next = 1 }},
		{[]int{api.PgOver, api.PgFree}, func(n *api.Node) { n.Next = math.MaxUint32 }},
		{[]int{api.PgOver, api.PgFree}, func(n *api.Node) { n.Next = 1 << 31 }},
		{[]int{api.PgOver}, func(n *api.Node) { n.Data = []byte{0} }},
		{[]int{api.PgOver}, func(n *api.Node) { n.Data = many(1, 238) }},
		{[]int{api.PgHead}, func(n *api.Node) { n.Head.Root = 1 }},
		{[]int{api.PgHead}, func(n *api.Node) { n.Head.Pages = 2 }},
		{[]int{api.PgHead}, func(n *api.Node) { n.Head.Free = 1 }},
		{[]int{api.PgHead}, func(n *api.Node) { n.Head.Entries = 1 }},
		{[]int{api.PgHead}, func(n *api.Node) { n.Head.Entries = 1 << 63 }},
		{[]int{api.PgHead}, func(n *api.Node) { n.Head = api.Head{Root: 1, Pages: 2} }},
	}
	for _, n := range plainest() {
		if e := judgedPut(t, n); e != api.OK {
			t.Fatalf("Put of %s: error %d", told(n), e)
		}
		for _, empty := range []api.Node{n, {Kind: n.Kind, Cells: n.Cells, Next: n.Next, Data: slices.Concat([]byte{}, n.Data), Head: n.Head}} {
			if len(empty.Cells) == 0 {
				empty.Cells = make([]api.Cell, 0, 3)
			}
			if e := judgedPut(t, empty); e != api.OK { // lists of no bytes are as none
				t.Fatalf("Put of %s: error %d", told(empty), e)
			}
		}
		for set := range 1 << len(parts) {
			m, foreign := n, false
			for i, p := range parts {
				if set>>i&1 == 1 {
					p.set(&m)
					foreign = foreign || !slices.Contains(p.told, n.Kind)
				}
			}
			if foreign {
				if _, e := node.Put(m); e != api.ErrNode {
					t.Fatalf("Put of %s: error %d, not %d", told(m), e, api.ErrNode)
				}
				continue
			}
			judgedPut(t, m)
		}
	}
}

// P8.1: a head's numbers, each about each of its edges, and far beyond.
func TestPutHeads(t *testing.T) {
	pages := []uint32{0, 1, 2, 3, 4, 5, 255, 256, 257, 258, 510, 511, 512, 513, 514, 1023, 1024, 1 << 16, 1<<16 + 2, 1<<16 + 512, 1 << 31, 1<<31 + 5, math.MaxUint32 - 1, math.MaxUint32}
	taken := 0
	for _, p := range pages {
		about := append(slices.Clone(pages), p-2, p-1, p, p+1, p/2, p+256, p+1<<16)
		for _, root := range about {
			for _, free := range about {
				for _, entries := range []uint64{0, 1, math.MaxUint64} {
					if judgedPut(t, api.Node{Kind: api.PgHead, Head: api.Head{Root: root, Pages: p, Free: free, Entries: entries}}) == api.OK {
						taken++
					}
				}
			}
		}
	}
	if taken < 1000 {
		t.Errorf("%d heads may be", taken)
	}
	for _, c := range []struct {
		h   api.Head
		may bool
	}{
		{api.Head{Root: 1, Pages: 2, Free: 0}, true},
		{api.Head{Root: 1, Pages: 2, Free: 1}, true},
		{api.Head{Root: 0, Pages: 2, Free: 1}, false},
		{api.Head{Root: 2, Pages: 2, Free: 1}, false},
		{api.Head{Root: 1, Pages: 2, Free: 2}, false},
		{api.Head{Root: 1, Pages: 1}, false},
		{api.Head{Root: 0, Pages: 1}, false},
		{api.Head{Root: 1, Pages: 0}, false},
		{api.Head{}, false},
		{api.Head{Root: 511, Pages: 512, Free: 511}, true},
		{api.Head{Root: 512, Pages: 512, Free: 511}, false},
		{api.Head{Root: 511, Pages: 512, Free: 512}, false},
		{api.Head{Root: 511, Pages: 513, Free: 511}, false},
		{api.Head{Root: 7, Pages: 20, Free: 7}, true}, // whether a page is two things, other layers ask
	} {
		_, e := node.Put(api.Node{Kind: api.PgHead, Head: c.h})
		if c.may != (e == api.OK) || !c.may && e != api.ErrNode {
			t.Errorf("Put of the head %v: error %d", c.h, e)
		}
	}
	for i := range 64 {
		judgedPut(t, api.Node{Kind: api.PgHead, Head: api.Head{Root: 1, Pages: 2, Entries: 1 << i}})
	}
}

// P8.1: Data of each length, those too whose length's lowest byte is one that may be; each Next.
func TestPutOver(t *testing.T) {
	sizes := []int{511, 512, 513, 750, 1000, 1<<16 - 1, 1 << 16, 1<<16 + 1, 1<<16 + 238}
	for size := range 500 {
		sizes = append(sizes, size)
	}
	for _, size := range sizes {
		for _, next := range []uint32{0, 1, math.MaxUint32} {
			e := judgedPut(t, api.Node{Kind: api.PgOver, Next: next, Data: some(1, size)})
			if may := size >= 1 && size <= 238; may != (e == api.OK) {
				t.Fatalf("Put of %d bytes: error %d", size, e)
			}
		}
	}
	for _, next := range numbers() {
		judgedPut(t, api.Node{Kind: api.PgOver, Next: next, Data: []byte("x")})
		judgedPut(t, api.Node{Kind: api.PgFree, Next: next})
	}
	refusedPut(t, api.Node{Kind: api.PgOver}, api.ErrNode)
	refusedPut(t, api.Node{Kind: api.PgOver, Next: 1}, api.ErrNode)
	refusedPut(t, api.Node{Kind: api.PgOver, Data: []byte{}}, api.ErrNode)
}

// celled is a cell of that kind with that key.
func celled(kind int, key string) api.Cell {
	if kind == api.PgInner {
		return kid(key, 5)
	}
	return inline(key, "v")
}

// P8.1: two keys, and three, in each way about each other.
func TestPutKeys(t *testing.T) {
	keys := []string{"\x00", "\x00\x00", "\x00\x01", "\x00\xff", "\x01", "a", "a\x00", "aa", "ab", "b", "ba", "\x7f", "\x80", "\x80\x00", "\xff", "\xff\xff", strings.Repeat("a", 24), strings.Repeat("a", 23), strings.Repeat("a", 23) + "b"}
	for _, kind := range cellKinds {
		all := keys
		if kind == api.PgInner {
			all = append([]string{""}, keys...)
		}
		for _, a := range all {
			for _, b := range all {
				e := judgedPut(t, of(kind, celled(kind, a), celled(kind, b)))
				if (a < b) != (e == api.OK) {
					t.Fatalf("Put of the keys %q and %q: error %d", a, b, e)
				}
				for _, c := range all {
					judgedPut(t, of(kind, celled(kind, a), celled(kind, b), celled(kind, c)))
				}
			}
		}
	}
	// Equal keys, whatever else differs.
	refusedPut(t, of(api.PgLeaf, inline("a", "x"), inline("a", "y")), api.ErrNode)
	refusedPut(t, of(api.PgLeaf, inline("a", "x"), chained("a", 50, 1)), api.ErrNode)
	refusedPut(t, of(api.PgInner, kid("a", 1), kid("a", 2)), api.ErrNode)
	refusedPut(t, of(api.PgInner, kid("", 1), kid("", 2)), api.ErrNode)
	// Numbers of pages need not rise, nor differ.
	for _, n := range []api.Node{of(api.PgInner, kid("a", 9), kid("b", 8)), of(api.PgInner, kid("a", 9), kid("b", 9)), of(api.PgLeaf, chained("a", 50, 7), chained("b", 60, 7))} {
		if e := judgedPut(t, n); e != api.OK {
			t.Errorf("Put of %s: error %d", told(n), e)
		}
	}
}

// P8.1: one place in many at which the keys do not rise.
func TestPutKeysInLongLists(t *testing.T) {
	for _, kind := range cellKinds {
		var cells []api.Cell
		for i := range 24 {
			cells = append(cells, celled(kind, string([]byte{byte(i * 8)})))
		}
		if e := judgedPut(t, of(kind, cells...)); e != api.OK {
			t.Fatalf("Put: error %d", e)
		}
		for i := 1; i < len(cells); i++ {
			wrong := slices.Clone(cells)
			wrong[i-1], wrong[i] = wrong[i], wrong[i-1]
			refusedPut(t, of(kind, wrong...), api.ErrNode)
			wrong = slices.Clone(cells)
			wrong[i] = wrong[i-1]
			refusedPut(t, of(kind, wrong...), api.ErrNode)
			wrong = slices.Clone(cells)
			wrong[i] = wrong[0]
			refusedPut(t, of(kind, wrong...), api.ErrNode)
		}
	}
}

// wrongCells are ones that are no cells of that kind, beside ones of the other kind.
func wrongCells(kind int) []api.Cell {
	common := []api.Cell{{}, {Key: many('m', 25)}, {Key: many('m', 25), Kid: 1}, {Key: []byte("m"), Size: 1, Val: []byte("x"), Kid: 1}, {Key: []byte("m"), Size: 50, Over: 1, Kid: 1}, {Key: []byte("m"), Size: -1}, {Key: []byte("m"), Val: []byte("x")}, {Key: []byte("m"), Over: 1}}
	if kind == api.PgInner {
		return append(common, inline("m", "x"), inline("m", ""), chained("m", 41, 1), kid("m", 0), api.Cell{Key: []byte("m"), Kid: 1, Size: 1}, api.Cell{Key: []byte("m"), Kid: 1, Over: 1}, api.Cell{Key: []byte("m"), Kid: 1, Val: []byte("x")})
	}
	return append(common, kid("m", 1), kid("m", 77), inline("", "x"), inline("m", strings.Repeat("x", 41)), chained("m", 40, 1), chained("m", 41, 0), chained("m", 1001, 1), api.Cell{Key: []byte("m"), Size: 2, Val: []byte("x")})
}

// P8.1: a wrong cell alone, and among right ones, at each place.
func TestPutWrongCells(t *testing.T) {
	for _, kind := range cellKinds {
		for _, wrong := range wrongCells(kind) {
			refusedPut(t, of(kind, wrong), api.ErrNode)
			for place := range 5 {
				var cells []api.Cell
				for i := range 5 {
					key := string([]byte{byte('m' + i - place)})
					if i == place {
						cells = append(cells, wrong)
						continue
					}
					cells = append(cells, celled(kind, key))
				}
				refusedPut(t, of(kind, cells...), api.ErrNode)
			}
		}
	}
}

// P8.1: the example, a leaf without cells may be, an inner page without may not.
func TestExample(t *testing.T) {
	for _, cells := range [][]api.Cell{nil, {}, make([]api.Cell, 0, 5)} {
		if e := judgedPut(t, of(api.PgLeaf, cells...)); e != api.OK {
			t.Errorf("Put of a leaf without cells: error %d", e)
		}
		refusedPut(t, api.Node{Kind: api.PgInner, Cells: cells}, api.ErrNode)
	}
	if n := got(t, sealed(api.PgLeaf, 3, cellsBody(nil, 0, 0))); n.Kind != api.PgLeaf || len(n.Cells) != 0 {
		t.Errorf("Get of a leaf without cells: %s", told(n))
	}
	refusedGet(t, sealed(api.PgInner, 3, cellsBody(nil, 0, 0)), api.ErrNode)
}

// needing are cells of a kind that need so many bytes in all: each one about as many as the others, 10 to 31.
func needing(t *testing.T, kind int, need, each int) []api.Cell {
	t.Helper()
	count := max(need/each, 1)
	var cells []api.Cell
	for i := range count {
		size := need*(i+1)/count - need*i/count
		key := []byte{byte('a' + i/16), byte('a' + i%16)}
		c := api.Cell{Key: key, Size: size - 6, Val: many('v', size-6)}
		if kind == api.PgInner {
			c = api.Cell{Key: append(key, many('k', size-9)...), Kid: 9}
		}
		cells = append(cells, c)
	}
	if n, ok := used(kind, cells); !ok || n != need {
		t.Fatalf("%d cells of kind %d need %d bytes, not %d, %v", len(cells), kind, n, need, ok)
	}
	return cells
}

// P8.2: cells that need just what a body has, one byte less, one more, and others.
func TestPutRoom(t *testing.T) {
	for _, kind := range cellKinds {
		for _, each := range []int{10, 11, 13, 15} {
			for need := 10; need < 900; need++ {
				want := api.OK
				if need > 241 {
					want = api.ErrRoom
				}
				cells := needing(t, kind, need, each)
				if e := judgedPut(t, of(kind, cells...)); e != want {
					t.Fatalf("Put of %d cells that need %d bytes: error %d, not %d", len(cells), need, e, want)
				}
			}
		}
	}
}

// P8.2: the longest cells of both kinds, and the shortest ones.
func TestPutRoomOfLikeCells(t *testing.T) {
	for _, c := range []struct {
		kind, size int
		of         func(i int) api.Cell
	}{
		{api.PgLeaf, 68, func(i int) api.Cell {
			return inline(string([]byte{byte(i)})+strings.Repeat("k", 23), strings.Repeat("v", 40))
		}},
		{api.PgLeaf, 5, func(i int) api.Cell { return inline(string([]byte{byte(i)}), "") }},
		{api.PgLeaf, 9, func(i int) api.Cell { return chained(string([]byte{byte(i)}), 41, 1) }},
		{api.PgInner, 31, func(i int) api.Cell { return kid(string([]byte{byte(i)})+strings.Repeat("k", 23), 2) }},
		{api.PgInner, 8, func(i int) api.Cell { return kid(string([]byte{byte(i)}), 2) }},
	} {
		var cells []api.Cell
		for i := range 120 {
			cells = append(cells, c.of(i))
			want := api.OK
			if (i+1)*c.size > 241 {
				want = api.ErrRoom
			}
			if e := judgedPut(t, of(c.kind, cells...)); e != want {
				t.Fatalf("Put of %d cells of %d bytes: error %d, not %d", i+1, c.size, e, want)
			}
		}
	}
}

// P8.2: ErrNode goes ahead of ErrRoom, wherever what is wrong stands.
func TestPutErrorsInOrder(t *testing.T) {
	for _, kind := range cellKinds {
		for _, need := range []int{241, 242, 400, 2000} {
			cells := needing(t, kind, need, 15)
			for _, i := range []int{0, 1, len(cells) / 2, len(cells) - 2, len(cells) - 1} {
				for _, wrong := range []api.Cell{{}, {Key: cells[i].Key, Kid: 1, Size: 1}, {Key: cells[(i+1)%len(cells)].Key, Size: cells[i].Size, Val: cells[i].Val, Kid: cells[i].Kid}} {
					l := slices.Clone(cells)
					l[i] = wrong
					refusedPut(t, of(kind, l...), api.ErrNode)
				}
			}
			for _, wrong := range []func(*api.Node){func(n *api.Node) { n.Next = 1 }, func(n *api.Node) { n.Data = []byte{1} }, func(n *api.Node) { n.Head.Entries = 1 }, func(n *api.Node) { n.Kind = 0 }, func(n *api.Node) { n.Kind = api.PgLeaf + api.PgInner - n.Kind }} {
				n := of(kind, cells...)
				wrong(&n)
				refusedPut(t, n, api.ErrNode)
			}
		}
	}
}

// P8.2: more cells than a body could tell in a byte, or in two.
func TestPutMany(t *testing.T) {
	for _, kind := range cellKinds {
		for _, count := range []int{255, 256, 257, 300, 65536, 70000} {
			var cells []api.Cell
			for i := range count {
				cells = append(cells, celled(kind, string([]byte{byte(i >> 16), byte(i >> 8), byte(i)})))
			}
			if _, e := node.Put(of(kind, cells...)); e != api.ErrRoom {
				t.Errorf("Put of %d cells: error %d, not %d", count, e, api.ErrRoom)
			}
			cells[count-1] = api.Cell{}
			if _, e := node.Put(of(kind, cells...)); e != api.ErrNode {
				t.Errorf("Put of %d cells, the last one none: error %d, not %d", count, e, api.ErrNode)
			}
		}
	}
}
