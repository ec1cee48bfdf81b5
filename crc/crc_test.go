package crc_test

import (
	"bytes"
	"hash/crc32"
	"math/rand"
	"slices"
	"testing"

	"scow/crc"
)

// onBits is P2.1 word by word, bit by bit, going on behind bytes whose sum is c.
func onBits(c uint32, p []byte) uint32 {
	register := ^c
	for _, b := range p {
		register ^= uint32(b)
		for range 8 {
			out := register & 1
			register >>= 1
			if out == 1 {
				register ^= 0x82f63b78
			}
		}
	}
	return ^register
}

// bytesOf are four bytes whose sum is c: each of them is found going back from the register's end.
func bytesOf(c uint32) []byte {
	register := ^c
	for range 32 {
		out := register >> 31 // set by the polynomial alone: its highest bit is 1
		if out == 1 {
			register ^= 0x82f63b78
		}
		register = register<<1 | out
	}
	register ^= 1<<32 - 1
	return []byte{byte(register), byte(register >> 8), byte(register >> 16), byte(register >> 24)}
}

// some are bytes of the given size that are the same in each run.
func some(seed int64, size int) []byte {
	p := make([]byte, size)
	rand.New(rand.NewSource(seed)).Read(p)
	return p
}

// texts are bytes of many sizes: none, one of each value, all alike, and mixed ones.
func texts() [][]byte {
	l := [][]byte{nil, {}, []byte("a"), []byte("abc"), []byte("123456789"), make([]byte, 1000), bytes.Repeat([]byte{255}, 300)}
	for b := range 256 {
		l = append(l, []byte{byte(b)})
	}
	for size := range 70 {
		l = append(l, some(int64(size), size))
	}
	return append(l, some(77, 252), some(78, 256), some(79, 5000))
}

// sums are some that bytes have, the edges, and some of which nobody made the bytes.
func sums() []uint32 {
	l := []uint32{0, 1, 2, 1<<31 - 1, 1 << 31, 1<<32 - 1, 0x82f63b78, 0xe3069283, 0xdeadbeef}
	r := rand.New(rand.NewSource(5))
	for range 50 {
		l = append(l, r.Uint32())
	}
	return l
}

func TestSumExample(t *testing.T) {
	if s := crc.Sum([]byte("123456789")); s != 0xe3069283 {
		t.Errorf("Sum of 123456789: %#x", s)
	}
}

func TestSumOfNothing(t *testing.T) {
	for _, s := range []uint32{crc.Sum(), crc.Sum(nil), crc.Sum([]byte{}), crc.Sum(nil, []byte{}, nil)} {
		if s != 0 {
			t.Errorf("a sum of nothing is %#x", s)
		}
	}
}

func TestSumOfOnePart(t *testing.T) {
	other := crc32.MakeTable(crc32.Castagnoli)
	for _, p := range texts() {
		s := crc.Sum(p)
		if s != onBits(0, p) || s != crc32.Checksum(p, other) {
			t.Errorf("Sum of %d bytes %.20x: %#x, not %#x", len(p), p, s, onBits(0, p))
		}
	}
}

func TestSumKnown(t *testing.T) { // from RFC 3720, B.4
	rising := make([]byte, 32)
	for i := range rising {
		rising[i] = byte(i)
	}
	falling := slices.Clone(rising)
	slices.Reverse(falling)
	for _, c := range []struct {
		p []byte
		s uint32
	}{
		{make([]byte, 32), 0x8a9136aa},
		{bytes.Repeat([]byte{255}, 32), 0x62a8ab43},
		{rising, 0x46dd794e},
		{falling, 0x113fdb5c},
	} {
		if s := crc.Sum(c.p); s != c.s {
			t.Errorf("Sum of %x: %#x, not %#x", c.p, s, c.s)
		}
	}
}

func TestSumOfManyParts(t *testing.T) {
	for _, size := range []int{0, 1, 2, 9, 64, 300} {
		p := some(int64(size), size)
		want := crc.Sum(p)
		for i := range size + 1 {
			for j := i; j <= size; j += 7 {
				if s := crc.Sum(p[:i], p[i:j], p[j:]); s != want {
					t.Fatalf("%d bytes in parts up to %d, %d: %#x, not %#x", size, i, j, s, want)
				}
			}
			if s := crc.Sum(p[:i], nil, p[i:], []byte{}); s != want {
				t.Fatalf("%d bytes in parts up to %d with empty ones: %#x, not %#x", size, i, s, want)
			}
		}
		var single [][]byte
		for i := range p {
			single = append(single, p[i:i+1])
		}
		if s := crc.Sum(single...); s != want {
			t.Errorf("%d bytes one by one: %#x, not %#x", size, s, want)
		}
	}
}

func TestSumTellsOrder(t *testing.T) {
	if crc.Sum([]byte("ab"), []byte("cd")) == crc.Sum([]byte("cd"), []byte("ab")) {
		t.Error("parts turned round have the same sum")
	}
}

func TestMoreBehindSum(t *testing.T) {
	for _, p := range texts() {
		for _, q := range [][]byte{nil, {}, {0}, []byte("q"), some(3, 40)} {
			if s := crc.More(crc.Sum(p), q); s != crc.Sum(p, q) {
				t.Fatalf("More of %.20x behind %.20x: %#x, not %#x", q, p, s, crc.Sum(p, q))
			}
		}
	}
}

func TestMoreBehindAnySum(t *testing.T) {
	for _, c := range sums() {
		head := bytesOf(c)
		if crc.Sum(head) != c {
			t.Fatalf("Sum of %x is %#x, not %#x", head, crc.Sum(head), c)
		}
		if s := crc.More(c, nil); s != c {
			t.Errorf("More of nothing behind %#x: %#x", c, s)
		}
		for _, p := range [][]byte{{}, {0}, {255}, []byte("123456789"), some(4, 100)} {
			if s := crc.More(c, p); s != onBits(c, p) || s != crc.Sum(head, p) {
				t.Errorf("More of %.20x behind %#x: %#x, not %#x", p, c, s, onBits(c, p))
			}
		}
	}
}

func TestMoreStepByStep(t *testing.T) {
	p := some(8, 500)
	for _, c := range sums() {
		step := c
		for i := range p {
			step = crc.More(step, p[i:i+1])
		}
		if s := crc.More(c, p); s != step {
			t.Errorf("More of 500 bytes behind %#x: %#x, byte by byte %#x", c, s, step)
		}
	}
}

func TestPut(t *testing.T) {
	for _, p := range texts() {
		s := onBits(0, p)
		want := append(slices.Clone(p), byte(s>>24), byte(s>>16), byte(s>>8), byte(s))
		if b := crc.Put(p); !bytes.Equal(b, want) {
			t.Errorf("Put of %d bytes %.20x: %x, not %x", len(p), p, b, want)
		}
	}
	if b := crc.Put([]byte("123456789")); !bytes.Equal(b, []byte("123456789\xe3\x06\x92\x83")) {
		t.Errorf("Put of 123456789: %x", b)
	}
	if b := crc.Put(nil); !bytes.Equal(b, make([]byte, 4)) {
		t.Errorf("Put of nothing: %x", b)
	}
}

func TestCheckOfPut(t *testing.T) {
	for _, p := range texts() {
		if q, ok := crc.Check(crc.Put(p)); !ok || !bytes.Equal(q, p) {
			t.Errorf("Check of Put of %d bytes %.20x: %.20x, %v", len(p), p, q, ok)
		}
	}
}

// refused fails unless Check has nothing to say of b.
func refused(t *testing.T, b []byte, why string) {
	t.Helper()
	if p, ok := crc.Check(b); ok || len(p) != 0 {
		t.Fatalf("Check of %.40x: %.40x, %v; %s", b, p, ok, why)
	}
}

func TestCheckOfFew(t *testing.T) {
	refused(t, nil, "it has no sum")
	for size := range 4 {
		refused(t, make([]byte, size), "it is shorter than a sum")
		refused(t, bytes.Repeat([]byte{255}, size), "it is shorter than a sum")
		refused(t, crc.Put([]byte("abc"))[:size], "it is shorter than a sum")
	}
}

func TestCheckOfNoPut(t *testing.T) {
	refused(t, []byte("123456789"), "its end is no sum")
	refused(t, []byte{0, 0, 0, 1}, "nothing has the sum 0")
	refused(t, bytes.Repeat([]byte{255}, 4), "nothing has the sum 0")
	refused(t, make([]byte, 5), "a byte 0 has another sum")
	refused(t, []byte("123456789\x83\x92\x06\xe3"), "the lowest byte is first")
	b := crc.Put(some(9, 60))
	for size := range b {
		refused(t, b[:size], "it is cut off")
	}
	refused(t, b[1:], "its beginning lacks")
	refused(t, append(slices.Clone(b), 0), "it has one byte more")
}

// TestCheckAsks holds Check against Put: b is a Put if and only if Check says so.
func TestCheckAsks(t *testing.T) {
	for size := range 8 {
		for seed := range int64(200) {
			b := some(seed, size)
			if seed%2 == 0 && size >= 4 {
				b = crc.Put(b[:size-4])
			}
			want := size >= 4 && bytes.Equal(crc.Put(b[:size-4]), b)
			if _, ok := crc.Check(b); ok != want {
				t.Fatalf("Check of %x: %v", b, ok)
			}
		}
	}
}

// turned is b with the bits of mask turned from bit at on, counted from the lowest of the first byte on.
func turned(b []byte, at int, mask uint32) []byte {
	c := slices.Clone(b)
	for i := range 32 {
		if mask>>i&1 == 1 {
			c[(at+i)/8] ^= 1 << ((at + i) % 8)
		}
	}
	return c
}

// TestTurned: P2.4, in the bytes that were put: at every place, from one bit to 32 neighbouring ones.
func TestTurned(t *testing.T) {
	r := rand.New(rand.NewSource(11))
	for _, size := range []int{4, 5, 9, 40} {
		b := crc.Put(some(int64(size), size))
		for at := range 8*size - 31 {
			for i := range 32 {
				refused(t, turned(b, at, 1<<i), "one bit is turned")
				refused(t, turned(b, at, 1<<i|1), "two bits are turned")
			}
			refused(t, turned(b, at, 1<<32-1), "32 bits are turned")
			refused(t, turned(b, at, 0x82f63b78), "the bits of the register's own number are turned")
			refused(t, turned(b, at, 0x1edc6f41), "the bits of that number, turned round, are turned")
			for range 40 {
				refused(t, turned(b, at, r.Uint32()|1), "up to 32 bits are turned")
			}
		}
	}
}

// TestTurnedSum: P2.4, in the four bytes of the sum.
func TestTurnedSum(t *testing.T) {
	r := rand.New(rand.NewSource(12))
	for _, size := range []int{0, 1, 9, 40} {
		b := crc.Put(some(int64(size), size))
		for i := range 32 {
			refused(t, turned(b, 8*size, 1<<i), "one bit of the sum is turned")
		}
		for range 500 {
			refused(t, turned(b, 8*size, r.Uint32()|1), "bits of the sum are turned")
		}
	}
}

// TestOtherByte: P2.5, each byte, of the sum too, as each other one.
func TestOtherByte(t *testing.T) {
	for _, size := range []int{0, 1, 2, 9, 60} {
		b := crc.Put(some(int64(size), size))
		for i := range b {
			for n := 1; n < 256; n++ {
				c := slices.Clone(b)
				c[i] ^= byte(n)
				refused(t, c, "one byte is another one")
			}
		}
	}
}

// withRoom is p with spare room behind it, and the whole that it lies in.
func withRoom(p []byte) (part, whole []byte) {
	whole = append(slices.Clone(p), bytes.Repeat([]byte{0xaa}, 32)...)
	return whole[:len(p)], whole
}

func TestNothingHandedInIsChanged(t *testing.T) {
	p, whole := withRoom([]byte("123456789"))
	before := slices.Clone(whole)
	crc.Sum(p, p)
	crc.More(7, p)
	crc.Put(p)
	if !bytes.Equal(whole, before) {
		t.Errorf("Sum, More or Put changed %x to %x", before, whole)
	}
	b, whole := withRoom(crc.Put(p))
	before = slices.Clone(whole)
	crc.Check(b)
	if !bytes.Equal(whole, before) {
		t.Errorf("Check changed %x to %x", before, whole)
	}
}

func TestAnswersShareNothing(t *testing.T) {
	p, whole := withRoom([]byte("123456789"))
	before := slices.Clone(whole)
	b := crc.Put(p)
	for i := range b {
		b[i] ^= 255
	}
	if !bytes.Equal(whole, before) {
		t.Error("Put's answer shares memory with what was put")
	}
	sealed := crc.Put(p)
	before = slices.Clone(sealed)
	q, _ := crc.Check(sealed)
	q = append(q, 1, 2, 3, 4)
	for i := range q {
		q[i] ^= 255
	}
	if !bytes.Equal(sealed, before) {
		t.Error("Check's answer shares memory with what was checked")
	}
}
