package page_test

import (
	"bytes"
	"encoding/binary"
	"hash/crc32"
	"math"
	"math/rand"
	"slices"
	"testing"

	"scow/api"
	"scow/page"
)

// kinds are all Kinds that a page may have.
var kinds = []int{api.PgHead, api.PgInner, api.PgLeaf, api.PgOver, api.PgFree}

// noKinds are numbers about those of the Kinds, and ones whose lowest byte is a Kind's.
var noKinds = []int{
	-1, -2, -3, -5, -251, -253, -254, -255, -256, math.MinInt, math.MinInt + 1, math.MinInt + 5, math.MaxInt, math.MaxInt - 250,
	256, 257, 258, 259, 260, 261, 262, 513, 515, 517, 1<<16 + 3, 1<<31 + 4, 1<<32 + 1, 1<<32 + 2, 1<<62 + 5,
}

// lsns are numbers about each one at which one more bit, or byte, is needed, and one whose bytes all differ.
func lsns() []uint64 {
	l := []uint64{0, 0x0102030405060708, 0xf8f7f6f5f4f3f2f1, math.MaxUint64 - 1, math.MaxUint64, api.MaxLSN - 1, api.MaxLSN, api.MaxLSN + 1}
	for i := range 64 {
		l = append(l, 1<<i-1, 1<<i, 1<<i+1)
	}
	slices.Sort(l)
	return slices.Compact(l)
}

// some are so many bytes, the same ones for the same seed.
func some(seed int64, size int) []byte {
	b := make([]byte, size)
	rand.New(rand.NewSource(seed)).Read(b)
	return b
}

// rising are bytes each of which tells its place.
func rising() []byte {
	b := make([]byte, api.BodySize)
	for i := range b {
		b[i] = byte(i)
	}
	return b
}

// bodies are some that a page may have.
func bodies() [][]byte {
	one := make([]byte, api.BodySize)
	one[0] = 1
	last := make([]byte, api.BodySize)
	last[api.BodySize-1] = 1
	return [][]byte{make([]byte, api.BodySize), bytes.Repeat([]byte{255}, api.BodySize), rising(), one, last, some(1, api.BodySize), some(2, api.BodySize)}
}

// pages are one of each Kind, LSN and Body.
func pages() []api.Page {
	var l []api.Page
	for _, kind := range kinds {
		for _, lsn := range lsns() {
			for _, body := range bodies() {
				l = append(l, api.Page{Kind: kind, LSN: lsn, Body: body})
			}
		}
	}
	return l
}

// summed is b with the sum that belongs behind it, reckoned by another program.
func summed(b []byte) []byte {
	return binary.BigEndian.AppendUint32(slices.Clone(b), crc32.Checksum(b, crc32.MakeTable(crc32.Castagnoli)))
}

// laid are a page's bytes, laid another way than Seal lays them; the Kind may be any byte, the Body of any size.
func laid(kind byte, lsn uint64, body []byte) []byte {
	return summed(append(binary.BigEndian.AppendUint64([]byte{kind}, lsn), body...))
}

// alike tells whether two pages have the same parts.
func alike(p, q api.Page) bool {
	return p.Kind == q.Kind && p.LSN == q.LSN && string(p.Body) == string(q.Body)
}

// sealed is p's Seal.
func sealed(t *testing.T, p api.Page) []byte {
	t.Helper()
	b, e := page.Seal(p)
	if e != api.OK || len(b) != api.PageSize {
		t.Fatalf("Seal of kind %d, LSN %d, %d bytes: %d bytes, error %d", p.Kind, p.LSN, len(p.Body), len(b), e)
	}
	return b
}

// opened is the page that b is.
func opened(t *testing.T, b []byte) api.Page {
	t.Helper()
	p, e := page.Open(b)
	if e != api.OK {
		t.Fatalf("Open of %.20x: error %d", b, e)
	}
	return p
}

// unsealed fails unless p has no bytes.
func unsealed(t *testing.T, p api.Page) {
	t.Helper()
	if b, e := page.Seal(p); e != api.ErrPage || len(b) != 0 {
		t.Fatalf("Seal of kind %d, LSN %d, %d bytes: %d bytes, error %d, not error %d", p.Kind, p.LSN, len(p.Body), len(b), e, api.ErrPage)
	}
}

// refused fails unless b is no page, for that reason, and nothing is told beside it.
func refused(t *testing.T, b []byte, want api.Errno) {
	t.Helper()
	p, e := page.Open(b)
	if e != want {
		t.Fatalf("Open of %d bytes %.20x: error %d, not %d", len(b), b, e, want)
	}
	if p.Kind != 0 || p.LSN != 0 || len(p.Body) != 0 {
		t.Fatalf("Open of %d bytes %.20x: error %d, and beside it %d, %d, %.20x", len(b), b, e, p.Kind, p.LSN, p.Body)
	}
}

// withRoom is p with spare room behind it, and the whole that it lies in.
func withRoom(p []byte) (part, whole []byte) {
	whole = append(slices.Clone(p), bytes.Repeat([]byte{0xaa}, 64)...)
	return whole[:len(p)], whole
}

// turn makes each byte of b another one, those of its spare room too.
func turn(b []byte) {
	b = b[:cap(b)]
	for i := range b {
		b[i] ^= 255
	}
}
