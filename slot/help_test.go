package slot_test

import (
	"bytes"
	"fmt"
	"math"
	"math/rand"
	"slices"
	"testing"

	"scow/api"
	"scow/slot"
)

// cells are what a body, and the plain one, can be asked and told.
type cells interface {
	Len() int
	Free() int
	Holes() int
	Cell(i int) []byte
	Insert(i int, c []byte) api.Errno
	Delete(i int) api.Errno
	Pack()
	Bytes() []byte
}

// far are places far from all cells.
var far = []int{math.MinInt, math.MinInt + 1, -1 << 32, -1 << 31, -257, -256, -255, -243, -2, 121, 243, 255, 256, 257, 1 << 31, 1 << 32, 1<<32 + 1, math.MaxInt - 1, math.MaxInt}

// about are all places around 0 and n, those between, and ones that are far off.
func about(n int) []int {
	l := slices.Clone(far)
	for i := -3; i <= n+3; i++ {
		l = append(l, i)
	}
	return l
}

// look tells all that a body shows.
func look(s cells) string {
	text := fmt.Sprintf("%d cells, %d free, %d in holes, %x", s.Len(), s.Free(), s.Holes(), s.Bytes())
	for _, i := range about(s.Len()) {
		if c := s.Cell(i); len(c) > 0 {
			text += fmt.Sprintf(", %d: %x", i, c)
		}
	}
	return text
}

// shows fails unless s shows what the plain one does.
func shows(t *testing.T, s *slot.Body, p *plain, when string) {
	t.Helper()
	if is, want := look(s), look(p); is != want {
		t.Fatalf("%s: it is\n%s, not\n%s", when, is, want)
	}
}

// holds fails unless the cells are those of a list.
func holds(t *testing.T, s *slot.Body, want ...[]byte) {
	t.Helper()
	free := api.BodySize - 2
	for _, c := range want {
		free -= 2 + len(c)
	}
	if s.Len() != len(want) || s.Free() != free {
		t.Fatalf("%d cells, %d free, not %d, %d", s.Len(), s.Free(), len(want), free)
	}
	for i, c := range want {
		if !bytes.Equal(s.Cell(i), c) {
			t.Fatalf("cell %d is %q, not %q", i, s.Cell(i), c)
		}
	}
}

// lies fails unless the directory has these places and lengths, and the top, and all that no cell has is 0.
func lies(t *testing.T, s *slot.Body, top int, entries ...int) {
	t.Helper()
	want := []byte{byte(len(entries) / 2), byte(top)}
	for _, n := range entries {
		want = append(want, byte(n))
	}
	want = append(want, make([]byte, api.BodySize-len(want))...)
	for i := 0; i < len(entries); i += 2 {
		copy(want[entries[i]:], s.Cell(i/2))
	}
	if b := s.Bytes(); !bytes.Equal(b, want) {
		t.Fatalf("the bytes are\n%x, not\n%x", b, want)
	}
}

// laid are bytes with that top and those entries, all else junk.
func laid(junk byte, top int, entries ...int) []byte {
	b := bytes.Repeat([]byte{junk}, api.BodySize)
	b[0], b[1] = byte(len(entries)/2), byte(top)
	for i, n := range entries {
		b[2+i] = byte(n)
	}
	return b
}

// parsed is the body that b is.
func parsed(t *testing.T, b []byte) *slot.Body {
	t.Helper()
	s, e := slot.Parse(b)
	if e != api.OK || s == nil {
		t.Fatalf("Parse of %x: error %d", b, e)
	}
	return s
}

// refused fails unless b is no body of cells.
func refused(t *testing.T, b []byte) {
	t.Helper()
	if s, e := slot.Parse(b); e != api.ErrSlot || s != nil {
		t.Fatalf("Parse of %d bytes %x: error %d, not %d, and a body: %v", len(b), b, e, api.ErrSlot, s != nil)
	}
}

// judged fails unless Parse takes b just when it is a body of cells, and shows it then.
func judged(t *testing.T, b []byte) bool {
	t.Helper()
	if !isBody(b) {
		refused(t, b)
		return false
	}
	shows(t, parsed(t, b), plainOf(b), fmt.Sprintf("Parse of %x", b))
	return true
}

// insert inserts a cell that has room.
func insert(t *testing.T, s *slot.Body, i int, c []byte) {
	t.Helper()
	if e := s.Insert(i, c); e != api.OK {
		t.Fatalf("Insert of %d bytes as cell %d of %d, %d free: error %d", len(c), i, s.Len(), s.Free(), e)
	}
}

// with is a body into which cells were inserted, each behind the others.
func with(t *testing.T, list ...[]byte) *slot.Body {
	t.Helper()
	s := slot.New()
	for i, c := range list {
		insert(t, s, i, c)
	}
	return s
}

// remove deletes a cell that there is.
func remove(t *testing.T, s *slot.Body, i int) {
	t.Helper()
	if e := s.Delete(i); e != api.OK {
		t.Fatalf("Delete of cell %d of %d: error %d", i, s.Len(), e)
	}
}

// wrong fails unless Insert answers that error, and nothing is changed.
func wrong(t *testing.T, s *slot.Body, i int, c []byte, want api.Errno) {
	t.Helper()
	was := look(s)
	if e := s.Insert(i, c); e != want {
		t.Fatalf("Insert of %d bytes as cell %d of %d, %d free: error %d, not %d", len(c), i, s.Len(), s.Free(), e, want)
	}
	if is := look(s); is != was {
		t.Fatalf("Insert of %d bytes as cell %d: error %d, but it is\n%s, and was\n%s", len(c), i, want, is, was)
	}
}

// sized are cells that need so many bytes in all with their entries; so many are never 1.
func sized(need int) [][]byte {
	var list [][]byte
	for need > 0 {
		size := min(need, 42)
		if need == size+1 { // what is left of it is to be enough for an entry
			size--
		}
		list = append(list, one('a'+byte(len(list)), size-2))
		need -= size
	}
	return list
}

// some are so many bytes, the same ones for the same seed.
func some(seed int64, size int) []byte {
	b := make([]byte, size)
	rand.New(rand.NewSource(seed)).Read(b)
	return b
}

// scattered are bytes of a body whose cells lie anywhere, in any order, with junk in the holes and ahead of the top.
func scattered(r *rand.Rand) []byte {
	b := some(r.Int63(), api.BodySize)
	var entries [][2]byte
	top := api.BodySize
	for range r.Intn(20) {
		hole, size := r.Intn(12)*r.Intn(2), r.Intn(30)*r.Intn(4)/3
		if top-hole-size < 4+2*len(entries) {
			break
		}
		top -= hole + size
		entries = append(entries, [2]byte{byte(top), byte(size)})
	}
	top -= r.Intn(top - 2*len(entries) - 1)
	r.Shuffle(len(entries), func(i, j int) { entries[i], entries[j] = entries[j], entries[i] })
	b[0], b[1] = byte(len(entries)), byte(top)
	for i, e := range entries {
		copy(b[2+2*i:], e[:])
	}
	return b
}

// withRoom is p with spare room behind it, and the whole that it lies in.
func withRoom(p []byte) (part, whole []byte) {
	whole = append(slices.Clone(p), bytes.Repeat([]byte{0xaa}, 64)...)
	return whole[:len(p)], whole
}

// turn makes each byte of b another one, those of its spare room too.
func turn(b []byte) {
	b = b[:cap(b)]
	for i := range b {
		b[i] ^= 255
	}
}
