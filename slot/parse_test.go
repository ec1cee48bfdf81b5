package slot_test

import (
	"bytes"
	"fmt"
	"math/rand"
	"slices"
	"testing"

	"scow/api"
	"scow/slot"
)

// P6.2: a body has BodySize bytes, neither fewer nor more.
func TestParseLengths(t *testing.T) {
	refused(t, nil)
	whole := with(t, []byte("abc"), nil, one('d', 40)).Bytes()
	for size := range 2*api.BodySize + 30 {
		if size == api.BodySize {
			parsed(t, slices.Clone(whole))
			continue
		}
		refused(t, make([]byte, size))
		refused(t, append(slices.Clone(whole), make([]byte, size)...)[:size])
		refused(t, append([]byte{0, byte(size)}, make([]byte, size)...)[:size]) // a body of that size, if there were any
	}
	refused(t, append(slices.Clone(whole), whole...))
	refused(t, whole[1:])
	refused(t, whole[:0:api.BodySize])
	refused(t, append(slices.Clone(whole), make([]byte, 256)...))
	refused(t, append(slices.Clone(whole), make([]byte, 1<<16)...))
}

// P6.1: the directory reaches the top at most, and the top BodySize, of every number of cells and every top.
func TestParseDirectoryAndTop(t *testing.T) {
	for n := range 256 {
		for top := range 256 {
			b := bytes.Repeat([]byte{243, 0}, 122)[:243] // as many cells of no bytes as may be
			b[0], b[1] = byte(n), byte(top)
			if ok := judged(t, b); ok != (2+2*n <= top && top <= 243) {
				t.Fatalf("%d cells, top %d: %v", n, top, ok)
			}
		}
	}
	parsed(t, laid(1, 2))
	refused(t, laid(1, 1))
	refused(t, laid(1, 0))
	parsed(t, laid(1, 6, 200, 1, 201, 1))
	refused(t, laid(1, 5, 200, 1, 201, 1))
	parsed(t, laid(1, 243))
	refused(t, laid(1, 244))
	refused(t, laid(1, 255))
}

// P6.1, P6.2: a cell at every place, of every length: not below the top, not beyond the end, not above MaxCell.
func TestParseOneCell(t *testing.T) {
	for _, top := range []int{3, 4, 5, 6, 77, 78, 100, 164, 165, 166, 167, 200, 241, 242, 243, 244, 255} {
		for place := range 256 {
			for size := range 256 {
				b := laid(byte(place+size), top, place, size)
				want := top >= 4 && top <= 243 && place >= top && place+size <= 243 && size <= 78
				if want != isBody(b) {
					t.Fatalf("top %d, a cell at %d of %d: isBody is wrong", top, place, size)
				}
				if !want {
					refused(t, b)
				} else if s := parsed(t, b); !bytes.Equal(s.Cell(0), b[place:place+size]) || s.Free() != 239-size || s.Holes() != 243-top-size {
					t.Fatalf("top %d, a cell at %d of %d: %x, %d free, %d in holes", top, place, size, s.Cell(0), s.Free(), s.Holes())
				}
			}
		}
	}
}

// P6.1: two cells that have a byte in common, or touch, or lie apart, whichever of them comes first.
func TestParseTwoCells(t *testing.T) {
	for place := 120; place < 190; place++ {
		for size := range 40 {
			want := size == 0 || place+size <= 150 || place >= 160
			if ok := judged(t, laid(1, 100, 150, 10, place, size)); ok != want {
				t.Fatalf("cells at 150 of 10, at %d of %d: %v", place, size, ok)
			}
			if ok := judged(t, laid(1, 100, place, size, 150, 10)); ok != want {
				t.Fatalf("cells at %d of %d, at 150 of 10: %v", place, size, ok)
			}
		}
	}
	for place := 232; place < 245; place++ {
		for size := range 10 {
			for other := 232; other < 245; other++ {
				for length := range 10 {
					judged(t, laid(byte(size), 234, place, size, other, length))
				}
			}
		}
	}
}

// P6.1: of many cells it may be any two that have a byte in common.
func TestParseAnyTwoCells(t *testing.T) {
	var apart []int
	for i := range 20 {
		apart = append(apart, 50+5*i, 5)
	}
	parsed(t, laid(1, 50, apart...))
	for i := range 20 {
		for j := range 20 {
			if i == j {
				continue
			}
			entries := slices.Clone(apart)
			entries[2*i] = entries[2*j] + 4
			entries[2*i+1] = 1
			refused(t, laid(1, 50, entries...))
			entries[2*i+1] = 0
			parsed(t, laid(1, 50, entries...))
			entries[2*i] = entries[2*j]
			parsed(t, laid(1, 50, entries...))
			entries[2*i+1] = 5
			refused(t, laid(1, 50, entries...))
		}
	}
}

// P6.1: a cell of no bytes may be at every place from the top to the end, in the midst of others too.
func TestParseCellsOfNoBytes(t *testing.T) {
	for place := range 256 {
		want := place >= 120 && place <= 243
		for _, entries := range [][]int{
			{place, 0},
			{150, 10, place, 0}, {place, 0, 150, 10},
			{place, 0, place, 0, place, 0},
			{120, 30, place, 0, 150, 78, place, 0, 228, 15},
		} {
			if ok := judged(t, laid(5, 120, entries...)); ok != want {
				t.Fatalf("cells of no bytes at %d: %v", place, ok)
			}
			if want {
				s := parsed(t, laid(5, 120, entries...))
				for i := 0; i < len(entries); i += 2 {
					if entries[i+1] == 0 && s.Bytes()[2+i] != 120 {
						t.Fatalf("a cell of no bytes, parsed at %d, has the place %d", place, s.Bytes()[2+i])
					}
				}
			}
		}
	}
}

// P6.2: a cell of MaxCell bytes, and a longer one, of which nothing else is wrong.
func TestParseLongest(t *testing.T) {
	for size := 70; size < 235; size++ {
		for _, entries := range [][]int{{243 - size, size}, {8, size}, {243, 0, 8, size}, {8, size, 242, 1}} {
			if ok := judged(t, laid(2, 8, entries...)); ok != (size <= 78) {
				t.Fatalf("a cell of %d bytes: %v", size, ok)
			}
		}
	}
}

// P6.1: what stands ahead of the top counts for nothing, and what is in holes has no part.
func TestParseJunk(t *testing.T) {
	r := rand.New(rand.NewSource(1))
	for range 500 {
		b := scattered(r)
		s := parsed(t, b)
		clean := s.Bytes()
		if !bytes.Equal(clean, plainOf(b).Bytes()) {
			t.Fatalf("Bytes of the body %x: %x", b, clean)
		}
		other := parsed(t, clean)
		if look(s) != look(other) {
			t.Fatalf("%x shows\n%s, and without what is in no cell\n%s", b, look(s), look(other))
		}
		for range 20 { // nor has it in what is done to it
			seed := r.Int63()
			a, c := step(rand.New(rand.NewSource(seed)), s, 40), step(rand.New(rand.NewSource(seed)), other, 40)
			if a != c || look(s) != look(other) {
				t.Fatalf("%x: %s, and without what is in no cell %s", b, a, c)
			}
		}
	}
}

// P6.2: any bytes, and a body of cells of which a byte is another one.
func TestParseAnyBytes(t *testing.T) {
	r := rand.New(rand.NewSource(2))
	for i := range int64(20000) {
		b := some(i, api.BodySize)
		if i%2 == 0 {
			b[0] %= 5
			b[1] %= 100
		}
		judged(t, b)
	}
	taken, not := 0, 0
	for range 150 {
		b := scattered(r)
		if !judged(t, b) {
			t.Fatalf("%x is no body", b)
		}
		for at := range 2 + 2*int(b[0]) {
			was := b[at]
			for range 30 {
				b[at] = byte(r.Intn(256))
				if judged(t, b) {
					taken++
				} else {
					not++
				}
			}
			b[at] = was
		}
	}
	if taken < 1000 || not < 1000 {
		t.Errorf("only %d were bodies, %d not", taken, not)
	}
}

// Parse neither changes nor keeps what is handed in.
func TestParseKeepsNothing(t *testing.T) {
	for _, whole := range [][]byte{laid(7, 20, 100, 10, 150, 78, 90, 0), laid(7, 19, 99, 10), laid(7, 3, 99, 10)} {
		b, room := withRoom(whole)
		before := slices.Clone(room)
		s, e := slot.Parse(b)
		if !bytes.Equal(room, before) {
			t.Fatal("Parse changed what was handed in")
		}
		if e != api.OK {
			continue
		}
		was := look(s)
		turn(b)
		if look(s) != was {
			t.Fatal("a body hangs on the bytes that it was parsed of")
		}
		before = slices.Clone(room)
		insert(t, s, 0, one('x', 20))
		remove(t, s, 1)
		s.Pack()
		if !bytes.Equal(room, before) {
			t.Fatal("a body writes into the bytes that it was parsed of")
		}
	}
}

// Two bodies of the same bytes go their own ways.
func TestParsedTwice(t *testing.T) {
	b := laid(7, 20, 100, 10, 150, 78, 90, 0)
	s, other := parsed(t, b), parsed(t, b)
	was := look(s)
	insert(t, other, 1, []byte("abc"))
	other.Pack()
	if look(s) != was {
		t.Fatal("what is done to a body is done to another one")
	}
	shows(t, s, plainOf(b), fmt.Sprintf("Parse of %x", b))
}
