package slot_test

import (
	"bytes"
	"slices"
	"testing"

	"scow/api"
	"scow/slot"
)

// P6.4: at every place around 0 and n; those behind it go one up.
func TestInsertPlaces(t *testing.T) {
	c := []byte("new")
	for n := range 6 {
		for _, i := range about(n) {
			var list [][]byte
			for k := range n {
				list = append(list, one('a'+byte(k), k))
			}
			s := with(t, list...)
			if i < 0 || i > n {
				wrong(t, s, i, c, api.ErrNone)
				holds(t, s, list...)
				continue
			}
			top := int(s.Bytes()[1])
			insert(t, s, i, c)
			holds(t, s, slices.Insert(list, i, c)...)
			if b := s.Bytes(); int(b[1]) != top-3 || int(b[2+2*i]) != top-3 || b[3+2*i] != 3 {
				t.Fatalf("Insert at %d of %d: it does not lie just ahead of the top: %x", i, n, b)
			}
		}
	}
}

// P6.4: cells of every length, of none and of MaxCell too; longer ones are ErrLong.
func TestInsertLengths(t *testing.T) {
	for size := range 400 {
		for n := range 3 {
			s := with(t, [][]byte{one('a', 78), one('b', 5)}[:n]...)
			for i := range n + 1 {
				if size > 78 {
					wrong(t, s, i, one('c', size), api.ErrLong)
					continue
				}
				insert(t, s, i, one('c', size))
				if !bytes.Equal(s.Cell(i), one('c', size)) {
					t.Fatalf("of %d bytes: the cell is %x", size, s.Cell(i))
				}
				remove(t, s, i)
			}
		}
	}
	for _, size := range []int{255, 256, 256 + 3, 512, 1 << 16} {
		wrong(t, slot.New(), 0, make([]byte, size), api.ErrLong)
	}
	s := slot.New()
	insert(t, s, 0, nil)
	insert(t, s, 0, []byte{})
	insert(t, s, 1, make([]byte, 0, 9))
	holds(t, s, nil, nil, nil)
	lies(t, s, 243, 243, 0, 243, 0, 243, 0)
}

// P6.4: with more than enough room, just enough, and one byte less, be it in one piece or, but for the entry, a hole.
func TestInsertRoom(t *testing.T) {
	for size := range 79 {
		for free := size + 1; free <= size+3; free++ {
			list := sized(241 - free)
			bodies := []*slot.Body{with(t, list...)}
			if free >= 2 {
				holed := with(t, append([][]byte{one('x', min(free-2, 78))}, list...)...)
				remove(t, holed, 0)
				bodies = append(bodies, holed)
			}
			for _, b := range bodies {
				holds(t, b, list...)
				for i := range len(list) + 1 {
					s, c := parsed(t, b.Bytes()), one('y', size)
					if size+2 > free {
						wrong(t, s, i, c, api.ErrRoom)
						holds(t, s, list...)
					} else {
						insert(t, s, i, c)
						holds(t, s, slices.Insert(slices.Clone(list), i, c)...)
					}
				}
			}
		}
	}
}

// P6.4: as many cells of no bytes as there is room for.
func TestInsertNoBytes(t *testing.T) {
	s, p := slot.New(), newPlain()
	for i := range 120 {
		insert(t, s, i/2, nil)
		p.Insert(i/2, nil)
		shows(t, s, p, "one more cell of no bytes")
	}
	wrong(t, s, 60, nil, api.ErrRoom)
	for range 120 {
		remove(t, s, s.Len()/2)
	}
	shows(t, s, newPlain(), "all deleted")
}

// P6.4: which error comes first.
func TestInsertOrder(t *testing.T) {
	full := with(t, one('a', 78), one('b', 78), one('c', 78))
	for _, i := range about(3) {
		for size := range 300 {
			switch {
			case i < 0 || i > 3:
				wrong(t, full, i, one('d', size), api.ErrNone)
			case size > 78:
				wrong(t, full, i, one('d', size), api.ErrLong)
			default:
				wrong(t, full, i, one('d', size), api.ErrRoom)
			}
		}
	}
	for _, i := range []int{-1, 1, 243, 256} {
		wrong(t, slot.New(), i, one('d', 79), api.ErrNone)
		wrong(t, slot.New(), i, one('d', 78), api.ErrNone)
		wrong(t, slot.New(), i, nil, api.ErrNone)
	}
}

// P6.4: it is packed first just when the bytes from behind the directory, with the new entry, up to the top are not enough.
func TestInsertPacks(t *testing.T) {
	for gap := -2; gap <= 194; gap++ {
		for size := range 79 {
			top := 6 + gap // with two cells the directory is six bytes
			first, second := parsed(t, laid(9, top, 200, 5)), parsed(t, laid(9, top, 200, 5))
			insert(t, first, 0, one('c', size))
			insert(t, second, 1, one('c', size))
			if size <= gap {
				lies(t, first, top-size, top-size, size, 200, 5)
				lies(t, second, top-size, 200, 5, top-size, size)
			} else {
				lies(t, first, 238-size, 238-size, size, 238, 5)
				lies(t, second, 238-size, 238, 5, 238-size, size)
			}
			holds(t, first, one('c', size), one(9, 5))
			holds(t, second, one(9, 5), one('c', size))
		}
	}
}

// P6.4: when it is packed first, the new cell is not yet one of those that are laid in order.
func TestInsertPacksTheOthers(t *testing.T) {
	s := with(t, one('a', 60), one('b', 60), one('c', 60), one('d', 30))
	remove(t, s, 1)
	insert(t, s, 0, one('e', 70))
	lies(t, s, 23, 23, 70, 183, 60, 123, 60, 93, 30)
	holds(t, s, one('e', 70), one('a', 60), one('c', 60), one('d', 30))
}

// P6.4: Insert neither changes nor keeps the cell that is handed in, with an error neither.
func TestInsertKeepsNothing(t *testing.T) {
	for size := range 90 {
		for n := range 4 {
			for _, i := range []int{-1, 0, n, n + 1} {
				s := with(t, [][]byte{one('a', 78), one('b', 78), one('c', 20)}[:n]...)
				c, whole := withRoom(some(int64(size), size))
				before := slices.Clone(whole)
				s.Insert(i, c)
				if !bytes.Equal(whole, before) {
					t.Fatalf("Insert of %d bytes changed what was handed in", size)
				}
				was := look(s)
				turn(c)
				if look(s) != was {
					t.Fatalf("a cell hangs on the %d bytes that were handed in", size)
				}
				before = slices.Clone(whole)
				s.Delete(0)
				s.Pack()
				s.Insert(0, one('z', 10))
				if !bytes.Equal(whole, before) {
					t.Fatalf("the body writes into the %d bytes that were handed in", size)
				}
			}
		}
	}
}

// P6.4: at every place around 0 and n; those behind it go one down.
func TestDeletePlaces(t *testing.T) {
	for n := range 6 {
		for _, i := range about(n) {
			var list [][]byte
			for k := range n {
				list = append(list, one('a'+byte(k), 5*k%7))
			}
			s := with(t, list...)
			if i >= 0 && i < n {
				remove(t, s, i)
				holds(t, s, slices.Delete(list, i, i+1)...)
				continue
			}
			was := look(s)
			if e := s.Delete(i); e != api.ErrNone || look(s) != was {
				t.Fatalf("Delete of cell %d of %d: error %d, and it is\n%s, and was\n%s", i, n, e, look(s), was)
			}
		}
	}
}

// P6.4: of a cell at the top, in the midst, of no bytes; where the top goes, and what is a hole.
func TestDeleteTop(t *testing.T) {
	for _, c := range []struct {
		was     []byte
		i       int
		top     int
		holes   int
		entries []int
	}{
		{laid(9, 213, 233, 10, 223, 10, 213, 10), 2, 223, 0, []int{233, 10, 223, 10}}, // at the top
		{laid(9, 213, 213, 10, 223, 10, 233, 10), 0, 223, 0, []int{223, 10, 233, 10}}, // at the top, the first one in order
		{laid(9, 213, 233, 10, 223, 10, 213, 10), 1, 213, 10, []int{233, 10, 213, 10}},
		{laid(9, 213, 233, 10, 223, 10, 213, 10), 0, 213, 10, []int{223, 10, 213, 10}},
		{laid(9, 213, 233, 10, 213, 10), 1, 223, 10, []int{233, 10}}, // no further, though a hole is there
		{laid(9, 213, 213, 10), 0, 223, 20, nil},                     // and be it the last cell
		{laid(9, 233, 233, 10), 0, 243, 0, nil},
		{laid(9, 200, 213, 10), 0, 200, 43, nil}, // not at the top, though no cell is above it
		{laid(9, 200, 213, 30, 201, 10), 1, 200, 13, []int{213, 30}},
		{laid(9, 200, 200, 10, 230, 0), 1, 200, 33, []int{200, 10}}, // of no bytes
		{laid(9, 200, 200, 10, 200, 0), 1, 200, 33, []int{200, 10}}, // of no bytes, at the top
		{laid(9, 200, 200, 0, 210, 5), 0, 200, 38, []int{210, 5}},
		{laid(9, 200, 200, 10, 200, 0), 0, 210, 33, []int{210, 0}}, // and one stays, whose place is the top
		{laid(9, 200, 200, 10, 205, 0, 243, 0), 0, 210, 33, []int{210, 0, 210, 0}},
	} {
		s, p := parsed(t, c.was), plainOf(c.was)
		remove(t, s, c.i)
		p.Delete(c.i)
		lies(t, s, c.top, c.entries...)
		if s.Holes() != c.holes {
			t.Errorf("Delete of cell %d of %x: %d in holes, not %d", c.i, c.was, s.Holes(), c.holes)
		}
		shows(t, s, p, "Delete")
	}
}

// P6.4: deletes one behind the other: the top goes behind each deleted cell that lies there, and leaves the holes that it meets.
func TestDeleteLeavesHoles(t *testing.T) {
	s := with(t, one('a', 10), one('b', 10), one('c', 10), one('d', 10))
	remove(t, s, 2)
	lies(t, s, 203, 233, 10, 223, 10, 203, 10)
	remove(t, s, 2)
	lies(t, s, 213, 233, 10, 223, 10)
	remove(t, s, 1)
	lies(t, s, 213, 233, 10)
	remove(t, s, 0)
	lies(t, s, 213)
	if s.Holes() != 30 || s.Free() != 241 {
		t.Errorf("%d in holes, %d free", s.Holes(), s.Free())
	}
	insert(t, s, 0, one('e', 10))
	lies(t, s, 203, 203, 10)
}
