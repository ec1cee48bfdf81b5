package node_test

import (
	"bytes"
	"math"
	"slices"
	"testing"

	"scow/api"
	"scow/node"
)

// same fails unless Same tells two nodes to be the same.
func same(t *testing.T, a, b api.Node) {
	t.Helper()
	if !node.Same(a, b) || !node.Same(b, a) {
		t.Fatalf("%s and %s are not the same", told(a), told(b))
	}
}

// differ fails unless Same tells two nodes apart.
func differ(t *testing.T, a, b api.Node) {
	t.Helper()
	if node.Same(a, b) || node.Same(b, a) {
		t.Fatalf("%s and %s are the same", told(a), told(b))
	}
}

// copied is n in memory of its own.
func copied(n api.Node) api.Node {
	n.Data = slices.Clone(n.Data)
	n.Cells = slices.Clone(n.Cells)
	for i := range n.Cells {
		c := &n.Cells[i]
		c.Key, c.Val = slices.Clone(c.Key), slices.Clone(c.Val)
	}
	return n
}

// anything is a node that has something in each part, and may not be.
func anything() api.Node {
	return api.Node{Kind: 9, LSN: 8, Cells: []api.Cell{{Key: []byte("k"), Size: 3, Val: []byte("v"), Over: 4, Kid: 5}, {}}, Next: 6, Data: []byte("data"), Head: api.Head{Root: 1, Pages: 2, Free: 3, Entries: 4}}
}

// P8.3: nodes with the same parts, wherever these lie, and be they ones that may be or not.
func TestSameOfSame(t *testing.T) {
	for _, n := range append(nodes(), api.Node{}, anything()) {
		same(t, n, n)
		same(t, n, copied(n))
	}
	same(t, api.Node{}, api.Node{Cells: []api.Cell{}, Data: []byte{}})
	same(t, api.Node{Data: make([]byte, 0, 9)}, api.Node{Cells: make([]api.Cell, 0, 9)})
	same(t, of(api.PgLeaf, inline("a", "")), of(api.PgLeaf, api.Cell{Key: []byte("a")}))
	same(t, of(api.PgInner, kid("", 1)), of(api.PgInner, api.Cell{Kid: 1}))
	data, _ := withRoom([]byte("data"))
	same(t, api.Node{Kind: api.PgOver, Data: data}, api.Node{Kind: api.PgOver, Data: []byte("data")})
}

// P8.3: nodes that differ in one part alone.
func TestSameOfUnlike(t *testing.T) {
	changes := []func(*api.Node){
		func(n *api.Node) { n.Data = append(n.Data, 0) },
		func(n *api.Node) { n.Cells = append(n.Cells, api.Cell{}) },
		func(n *api.Node) { n.Cells = append([]api.Cell{kid("", 7)}, n.Cells...) },
		func(n *api.Node) { n.Kind, n.LSN = n.Kind+1, n.LSN-1 },
	}
	for i := range 64 {
		changes = append(changes,
			func(n *api.Node) { n.Kind ^= 1 << i },
			func(n *api.Node) { n.LSN ^= 1 << i },
			func(n *api.Node) { n.Next ^= 1 << (i % 32) },
			func(n *api.Node) { n.Head.Root ^= 1 << (i % 32) },
			func(n *api.Node) { n.Head.Pages ^= 1 << (i % 32) },
			func(n *api.Node) { n.Head.Free ^= 1 << (i % 32) },
			func(n *api.Node) { n.Head.Entries ^= 1 << i })
	}
	for _, n := range append(nodes(), api.Node{}, anything()) {
		for _, change := range changes {
			m := copied(n)
			change(&m)
			differ(t, n, m)
		}
		for i := range n.Data {
			m := copied(n)
			m.Data[i] ^= 1
			differ(t, n, m)
			differ(t, n, withData(n, n.Data[:i]))
		}
		for i := range n.Cells {
			for _, change := range []func(*api.Cell){
				func(c *api.Cell) { c.Key = append(c.Key, 0) },
				func(c *api.Cell) { c.Val = append(c.Val, 0) },
				func(c *api.Cell) { c.Size++ },
				func(c *api.Cell) { c.Over++ },
				func(c *api.Cell) { c.Kid++ },
			} {
				m := copied(n)
				change(&m.Cells[i])
				differ(t, n, m)
			}
			m := copied(n)
			m.Cells = slices.Delete(m.Cells, i, i+1)
			differ(t, n, m)
			if i > 0 {
				m := copied(n)
				m.Cells[0], m.Cells[i] = m.Cells[i], m.Cells[0]
				differ(t, n, m)
			}
		}
	}
}

// withData is n with other Data.
func withData(n api.Node, data []byte) api.Node {
	n.Data = data
	return n
}

// judgedUsed fails unless Used answers what the document asks.
func judgedUsed(t *testing.T, kind int, cells ...api.Cell) {
	t.Helper()
	n, e := node.Used(kind, cells...)
	want, ok := used(kind, cells)
	if !ok && (n != 0 || e != api.ErrNode) {
		t.Fatalf("Used of kind %d, %d cells: %d, error %d, not 0, error %d", kind, len(cells), n, e, api.ErrNode)
	}
	if ok && (n != want || e != api.OK) {
		t.Fatalf("Used of kind %d, %d cells: %d, error %d, not %d", kind, len(cells), n, e, want)
	}
}

// P8.4: told by hand.
func TestUsedTold(t *testing.T) {
	for _, c := range []struct {
		kind  int
		cells []api.Cell
		want  int
	}{
		{api.PgLeaf, nil, 0},
		{api.PgInner, nil, 0},
		{api.PgLeaf, []api.Cell{}, 0},
		{api.PgLeaf, []api.Cell{inline("a", "xy")}, 7},
		{api.PgLeaf, []api.Cell{inline("a", "")}, 5},
		{api.PgLeaf, []api.Cell{chained("a", 41, 1)}, 9},
		{api.PgLeaf, []api.Cell{chained("a", 127, 1)}, 9},
		{api.PgLeaf, []api.Cell{chained("abc", 128, 1)}, 12},
		{api.PgLeaf, []api.Cell{inline("a", "xy"), chained("b", 1000, 5)}, 17},
		{api.PgInner, []api.Cell{kid("", 1)}, 7},
		{api.PgInner, []api.Cell{kid("", 1), kid("key", 2)}, 17},
	} {
		if n, e := node.Used(c.kind, c.cells...); n != c.want || e != api.OK {
			t.Errorf("Used of kind %d, %v: %d, error %d, not %d", c.kind, c.cells, n, e, c.want)
		}
	}
}

// P8.4: of no other kind, of no wrong cell; the keys need not rise, nor need there be room.
func TestUsed(t *testing.T) {
	for _, kind := range append(slices.Clone(noKinds), kinds...) {
		judgedUsed(t, kind)
		for _, cells := range [][]api.Cell{{{}}, {inline("a", "x")}, {kid("a", 1)}, {inline("a", "x"), kid("b", 1)}, {kid("a", 1), inline("b", "x")}} {
			judgedUsed(t, kind, cells...)
		}
		for _, n := range nodes() {
			judgedUsed(t, kind, n.Cells...)
		}
	}
	for _, kind := range cellKinds {
		a, b := celled(kind, "a"), celled(kind, "bb")
		for _, cells := range [][]api.Cell{{b, a}, {a, a}, {a, b, a, b, b}, slices.Repeat([]api.Cell{a, b}, 1000)} {
			judgedUsed(t, kind, cells...)
		}
		for _, wrong := range wrongCells(kind) {
			for _, cells := range [][]api.Cell{{wrong}, {wrong, a}, {a, wrong}, {a, wrong, b}, append(slices.Repeat([]api.Cell{a}, 300), wrong)} {
				if _, ok := used(kind, cells); ok {
					t.Fatalf("%v are cells of kind %d", cells, kind)
				}
				judgedUsed(t, kind, cells...)
			}
		}
	}
}

// P8.2, P8.4: what Used tells is what tells whether there is room.
func TestUsedIsRoom(t *testing.T) {
	for _, kind := range cellKinds {
		for need := 200; need < 300; need++ {
			cells := needing(t, kind, need, 15)
			n, e := node.Used(kind, cells...)
			if n != need || e != api.OK {
				t.Fatalf("Used of %d cells: %d, error %d, not %d", len(cells), n, e, need)
			}
			if _, e := node.Put(of(kind, cells...)); (e == api.OK) != (n <= api.BodySize-2) {
				t.Fatalf("Put of cells that need %d bytes: error %d", n, e)
			}
		}
	}
}

// P8.5: what is put is got, and what is got is put as the same bytes.
func TestThereAndBack(t *testing.T) {
	if api.MaxData != mostData || api.MaxPages != mostPages || api.BodySize != bodySize || api.PageSize != pageSize {
		t.Fatal("the limits are others than the document's")
	}
	for _, n := range nodes() {
		b := put(t, n)
		d, e := node.Get(b)
		if e != api.OK || !node.Same(n, d) || told(n) != told(d) {
			t.Fatalf("%s is %s, error %d, there and back", told(n), told(d), e)
		}
		if again := put(t, d); !bytes.Equal(b, again) {
			t.Fatalf("Put of %s: %x, and back %x", told(n), b, again)
		}
	}
	for seed := range 2000 {
		kind := cellKinds[seed%2]
		n := of(kind, full(kind, seed)...)
		n.LSN = uint64(seed) * 0x0102030405
		d, e := node.Get(put(t, n))
		if e != api.OK || !node.Same(n, d) || told(n) != told(d) {
			t.Fatalf("%s is %s, error %d, there and back", told(n), told(d), e)
		}
	}
}

// roomy is n in memory with spare room behind each part, and all of the bytes that it lies in.
func roomy(n api.Node) (api.Node, [][]byte) {
	var wholes [][]byte
	widen := func(b []byte) []byte {
		part, whole := withRoom(b)
		wholes = append(wholes, whole)
		return part
	}
	n.Data = widen(n.Data)
	cells := append(slices.Clone(n.Cells), anything().Cells...)
	for i := range n.Cells {
		cells[i].Key, cells[i].Val = widen(cells[i].Key), widen(cells[i].Val)
	}
	n.Cells = cells[:len(n.Cells)]
	return n, wholes
}

// everything is all bytes of several lists, one behind the other.
func everything(lists [][]byte) []byte {
	return slices.Concat(lists...)
}

func TestNothingHandedInIsChanged(t *testing.T) {
	wrong := []api.Node{anything(), {Kind: api.PgOver, Data: many(1, 239)}, of(api.PgLeaf, inline("b", "x"), inline("a", "y")), of(api.PgLeaf, slices.Repeat([]api.Cell{celled(api.PgLeaf, "a")}, 90)...)}
	for _, n := range append(wrong, nodes()...) {
		m, wholes := roomy(n)
		was := everything(wholes)
		spare := told(api.Node{Cells: m.Cells[:cap(m.Cells)]})
		b, e := node.Put(m)
		node.Used(m.Kind, m.Cells...)
		node.Same(m, m)
		node.Same(m, api.Node{})
		if !bytes.Equal(everything(wholes), was) || told(n) != told(m) || told(api.Node{Cells: m.Cells[:cap(m.Cells)]}) != spare {
			t.Fatalf("%s was changed", told(n))
		}
		if e != api.OK {
			b = sealed(byte(n.Kind), 1, many(3, bodySize))
		}
		part, whole := withRoom(b)
		wasWhole := slices.Clone(whole)
		node.Get(part)
		node.Get(whole)
		node.Get(whole[1:])
		node.Get(part[:255])
		if !bytes.Equal(whole, wasWhole) {
			t.Fatalf("Get of %x changed what was handed in", part)
		}
	}
}

// What is handed in may be changed behind a call, and what is answered too: neither is seen in the other.
func TestPutSharesNothing(t *testing.T) {
	for _, n := range nodes() {
		m, wholes := roomy(n)
		was := everything(wholes)
		a, b := put(t, m), put(t, m)
		turn(a)
		if !bytes.Equal(everything(wholes), was) || !bytes.Equal(b, laid(n)) {
			t.Fatalf("Put of %s shares memory with the node, or with another answer", told(n))
		}
		for _, whole := range wholes {
			turn(whole)
		}
		clear(m.Cells)
		if !bytes.Equal(b, laid(n)) {
			t.Fatalf("Put of %s hangs on what was handed in", told(n))
		}
	}
}

func TestGetSharesNothing(t *testing.T) {
	for _, n := range nodes() {
		b, whole := withRoom(laid(n))
		was := slices.Clone(whole)
		p, q := got(t, b), got(t, b)
		// Each list of an answer is turned alone: all others stay.
		for i := range p.Cells {
			for _, list := range [][]byte{p.Cells[i].Key, p.Cells[i].Val} {
				turn(list)
				changed := told(p)
				turn(list)
				if told(p) != told(n) || len(list) > 0 && changed == told(n) {
					t.Fatalf("Get of %s: turned and back %s", told(n), told(p))
				}
			}
			turn(p.Cells[i].Key)
			for k := range p.Cells {
				if c := n.Cells[k]; k != i && !bytes.Equal(p.Cells[k].Key, c.Key) || !bytes.Equal(p.Cells[k].Val, c.Val) {
					t.Fatalf("Get of %s: two lists share memory", told(n))
				}
			}
			turn(p.Cells[i].Key)
			turn(p.Cells[i].Val)
			for k := range p.Cells {
				if c := n.Cells[k]; k != i && !bytes.Equal(p.Cells[k].Val, c.Val) || !bytes.Equal(p.Cells[k].Key, c.Key) {
					t.Fatalf("Get of %s: two lists share memory", told(n))
				}
			}
			turn(p.Cells[i].Val)
		}
		turn(p.Data)
		for i := range p.Cells {
			turn(p.Cells[i].Key)
			turn(p.Cells[i].Val)
		}
		clear(p.Cells[:cap(p.Cells)])
		if !bytes.Equal(whole, was) || told(q) != told(n) {
			t.Fatalf("Get of %s shares memory with the bytes, or with another answer", told(n))
		}
		turn(whole)
		if told(q) != told(n) {
			t.Fatalf("Get of %s hangs on what was handed in", told(n))
		}
	}
}

// What was asked before has no part in what is answered.
func TestNothingIsKept(t *testing.T) {
	all := nodes()
	first := make([][]byte, len(all))
	for i, n := range all {
		first[i] = put(t, n)
	}
	for i := len(all) - 1; i >= 0; i-- {
		node.Put(anything())
		node.Get(many(255, pageSize))
		node.Used(api.PgLeaf, inline("z", "z"))
		if !bytes.Equal(put(t, all[i]), first[i]) || told(got(t, first[i])) != told(all[i]) {
			t.Fatalf("%s is another one the second time", told(all[i]))
		}
	}
	if n := got(t, laid(api.Node{Kind: api.PgFree, LSN: math.MaxUint64})); told(n) != told(api.Node{Kind: api.PgFree, LSN: math.MaxUint64}) {
		t.Errorf("Get of a free page: %s", told(n))
	}
}
