package slot_test

import (
	"bytes"
	"fmt"
	"testing"

	"scow/api"
	"scow/slot"
)

// P6.2: New's bytes, and what it shows.
func TestNew(t *testing.T) {
	s := slot.New()
	if b, want := s.Bytes(), append([]byte{0, 243}, make([]byte, 241)...); !bytes.Equal(b, want) {
		t.Errorf("New is %x", b)
	}
	if s.Len() != 0 || s.Free() != 241 || s.Holes() != 0 {
		t.Errorf("New has %d cells, %d free, %d in holes", s.Len(), s.Free(), s.Holes())
	}
	shows(t, s, newPlain(), "New")
	other := slot.New()
	insert(t, other, 0, []byte("abc"))
	shows(t, s, newPlain(), "New, behind an Insert into another one")
	shows(t, slot.New(), newPlain(), "New, once more")
}

// P6.1, P6.3: the bytes of a few cells, told by hand.
func TestBytesTold(t *testing.T) {
	s := with(t, []byte("one"), nil, []byte("three"))
	want := append([]byte{3, 235, 240, 3, 235, 0, 235, 5}, make([]byte, 235-8)...)
	want = append(want, "threeone"...)
	if b := s.Bytes(); !bytes.Equal(b, want) {
		t.Errorf("the bytes are %x, not %x", b, want)
	}
	if s.Len() != 3 || s.Free() != 243-2-6-8 || s.Holes() != 0 {
		t.Errorf("%d cells, %d free, %d in holes", s.Len(), s.Free(), s.Holes())
	}
	remove(t, s, 0)
	want = append([]byte{2, 235, 235, 0, 235, 5}, make([]byte, 235-6)...)
	want = append(want, "three\x00\x00\x00"...)
	if b := s.Bytes(); !bytes.Equal(b, want) {
		t.Errorf("behind Delete the bytes are %x, not %x", b, want)
	}
	if s.Len() != 2 || s.Free() != 243-2-4-5 || s.Holes() != 3 {
		t.Errorf("%d cells, %d free, %d in holes", s.Len(), s.Free(), s.Holes())
	}
}

// The chapter's example.
func TestExample(t *testing.T) {
	s := with(t, one('a', 78), one('b', 78), one('c', 78))
	if s.Free() != 1 {
		t.Errorf("%d free, not 1", s.Free())
	}
	for i := range 4 {
		wrong(t, s, i, one('d', 78), api.ErrRoom)
		wrong(t, s, i, nil, api.ErrRoom)
	}
	holds(t, s, one('a', 78), one('b', 78), one('c', 78))
}

// P6.3: Cell at every place around 0 and n.
func TestCellPlaces(t *testing.T) {
	for n := range 6 {
		s := slot.New()
		for i := range n {
			insert(t, s, i, one('a'+byte(i), i))
		}
		for _, i := range about(n) {
			var want []byte
			if i >= 0 && i < n {
				want = one('a'+byte(i), i)
			}
			if c := s.Cell(i); !bytes.Equal(c, want) {
				t.Fatalf("cell %d of %d is %q, not %q", i, n, c, want)
			}
		}
	}
	s := parsed(t, laid(7, 10)) // what lies ahead of the top, and in holes, is nobody's
	for _, i := range about(0) {
		if c := s.Cell(i); len(c) != 0 {
			t.Fatalf("cell %d of none is %q", i, c)
		}
	}
}

// P6.3: in Bytes all is 0 from behind the directory up to the top, and in holes, whatever was there.
func TestBytesZero(t *testing.T) {
	s := parsed(t, laid(0xaa, 20, 200, 10, 100, 5, 150, 0, 238, 5))
	want := make([]byte, 243)
	copy(want, []byte{4, 20, 200, 10, 100, 5, 20, 0, 238, 5})
	for _, part := range [][2]int{{200, 210}, {100, 105}, {238, 243}} {
		for at := part[0]; at < part[1]; at++ {
			want[at] = 0xaa
		}
	}
	if b := s.Bytes(); !bytes.Equal(b, want) {
		t.Fatalf("the bytes are\n%x, not\n%x", b, want)
	}
	if s.Holes() != 243-20-20 || s.Free() != 243-2-8-20 {
		t.Errorf("%d in holes, %d free", s.Holes(), s.Free())
	}
	s = with(t, one('a', 20), one('b', 20), one('c', 20))
	for range 3 { // what was a cell, or of the directory, is 0 when it is none any more
		remove(t, s, 0)
	}
	if b, want := s.Bytes(), append([]byte{0, 243 - 40}, make([]byte, 241)...); s.Holes() != 40 || !bytes.Equal(b, want) {
		t.Errorf("behind three deletes, %d in holes: %x", s.Holes(), b)
	}
}

// What Cell and Bytes answer shares nothing with the body, nor with another answer.
func TestAnswersShareNothing(t *testing.T) {
	for _, s := range []*slot.Body{
		slot.New(),
		with(t, one('a', 20), nil, one('c', 78), one('d', 1)),
		parsed(t, laid(3, 40, 60, 10, 70, 10, 90, 0, 220, 23)),
	} {
		was := look(s)
		for i := range s.Len() {
			c, again := s.Cell(i), s.Cell(i)
			before := bytes.Clone(again)
			turn(c)
			_ = append(c, 1, 2, 3)
			if look(s) != was || !bytes.Equal(again, before) {
				t.Fatalf("what Cell(%d) answered shares memory", i)
			}
		}
		b, again := s.Bytes(), s.Bytes()
		before := bytes.Clone(again)
		turn(b)
		_ = append(b, 1, 2, 3)
		if look(s) != was || !bytes.Equal(again, before) {
			t.Fatal("what Bytes answered shares memory")
		}
		var kept [][]byte
		for i := range s.Len() {
			kept = append(kept, s.Cell(i))
		}
		texts := fmt.Sprint(kept)
		for s.Len() > 0 {
			remove(t, s, 0)
		}
		s.Pack()
		insert(t, s, 0, one('z', 78))
		insert(t, s, 0, one('z', 78))
		insert(t, s, 0, one('z', 78))
		if fmt.Sprint(kept) != texts || !bytes.Equal(again, before) {
			t.Fatal("what was answered is changed by what comes behind")
		}
	}
}

// P6.5: cells in order from the end down, be there holes or not, and in whichever order they lay.
func TestPack(t *testing.T) {
	for _, c := range []struct {
		was     []byte
		top     int
		entries []int
	}{
		{laid(9, 243), 243, nil},
		{laid(9, 2), 243, nil}, // nothing but holes
		{laid(9, 4, 200, 10), 233, []int{233, 10}},
		{laid(9, 233, 233, 10), 233, []int{233, 10}}, // as it is to be already
		{laid(9, 213, 233, 10, 213, 20), 213, []int{233, 10, 213, 20}},
		{laid(9, 213, 213, 10, 223, 20), 213, []int{233, 10, 213, 20}}, // no holes, but the first one is not last
		{laid(9, 8, 100, 10, 50, 20, 200, 5), 208, []int{233, 10, 213, 20, 208, 5}},
		{laid(9, 50, 60, 78, 170, 0, 150, 0, 165, 78), 87, []int{165, 78, 87, 0, 87, 0, 87, 78}},
		{laid(9, 20, 20, 0, 243, 0, 100, 3, 30, 0), 240, []int{240, 0, 240, 0, 240, 3, 240, 0}},
	} {
		for i := range c.was[c.was[1]:] { // each byte tells its place
			c.was[int(c.was[1])+i] = byte(i) + 1
		}
		s, p := parsed(t, c.was), plainOf(c.was)
		var list [][]byte
		for i := range s.Len() {
			list = append(list, s.Cell(i))
		}
		for range 2 { // the second one changes nothing
			s.Pack()
			p.Pack()
			lies(t, s, c.top, c.entries...)
			holds(t, s, list...)
			shows(t, s, p, "Pack")
			if s.Holes() != 0 {
				t.Fatalf("%d in holes behind Pack", s.Holes())
			}
		}
	}
}

// On a nil body all is 0, none or ErrNone.
func TestNil(t *testing.T) {
	var s *slot.Body
	for _, i := range about(0) {
		if c := s.Cell(i); len(c) != 0 {
			t.Errorf("cell %d is %q", i, c)
		}
		for _, c := range [][]byte{nil, {}, []byte("a"), one('b', 78), one('c', 79), one('d', 300)} {
			if e := s.Insert(i, c); e != api.ErrNone {
				t.Errorf("Insert(%d) of %d bytes: error %d", i, len(c), e)
			}
		}
		if e := s.Delete(i); e != api.ErrNone {
			t.Errorf("Delete(%d): error %d", i, e)
		}
	}
	s.Pack()
	if s.Len() != 0 || s.Free() != 0 || s.Holes() != 0 || len(s.Bytes()) != 0 {
		t.Errorf("%d cells, %d free, %d in holes, %x", s.Len(), s.Free(), s.Holes(), s.Bytes())
	}
}
