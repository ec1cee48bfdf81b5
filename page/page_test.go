package page_test

import (
	"bytes"
	"encoding/hex"
	"slices"
	"testing"

	"scow/api"
	"scow/crc"
	"scow/page"
	"scow/vint"
)

// P5.1: the bytes themselves, told by hand.
func TestSealTold(t *testing.T) {
	for _, c := range []struct {
		p     api.Page
		first string // the Kind, and the LSN
		sum   string
	}{
		{api.Page{Kind: api.PgFree, LSN: 0, Body: make([]byte, api.BodySize)}, "050000000000000000", "235a5b60"},
		{api.Page{Kind: api.PgLeaf, LSN: 0x0102030405060708, Body: rising()}, "030102030405060708", "dc92d1e9"},
		{api.Page{Kind: api.PgHead, LSN: 1<<64 - 1, Body: bytes.Repeat([]byte{255}, api.BodySize)}, "01ffffffffffffffff", "aa2eb628"},
	} {
		b := sealed(t, c.p)
		if got := hex.EncodeToString(b[:9]); got != c.first {
			t.Errorf("kind %d, LSN %d: begins with %s, not %s", c.p.Kind, c.p.LSN, got, c.first)
		}
		if !bytes.Equal(b[9:252], c.p.Body) {
			t.Errorf("kind %d, LSN %d: the Body is %x", c.p.Kind, c.p.LSN, b[9:252])
		}
		if got := hex.EncodeToString(b[252:]); got != c.sum {
			t.Errorf("kind %d, LSN %d: ends with %s, not %s", c.p.Kind, c.p.LSN, got, c.sum)
		}
	}
}

// P5.1: each part stands at its place, of each Kind, LSN and Body.
func TestSealParts(t *testing.T) {
	for _, p := range pages() {
		b := sealed(t, p)
		if !bytes.Equal(b, laid(byte(p.Kind), p.LSN, p.Body)) {
			t.Fatalf("Seal of kind %d, LSN %d, Body %.20x: %x", p.Kind, p.LSN, p.Body, b)
		}
		if int(b[0]) != p.Kind || !bytes.Equal(b[1:9], vint.Fixed(p.LSN, 8)) || !bytes.Equal(b, crc.Put(b[:252])) {
			t.Fatalf("Seal of kind %d, LSN %d: %x, .., %x", p.Kind, p.LSN, b[:9], b[252:])
		}
	}
}

// P5.1: no byte is a Kind but the five, the example's among them; nor is any other number, whatever its lowest byte.
func TestSealKinds(t *testing.T) {
	for kind := range 256 {
		p := api.Page{Kind: kind, LSN: 7, Body: rising()}
		if slices.Contains(kinds, kind) {
			sealed(t, p)
		} else {
			unsealed(t, p)
		}
	}
	for _, kind := range noKinds {
		unsealed(t, api.Page{Kind: kind, LSN: 7, Body: rising()})
	}
	unsealed(t, api.Page{Kind: 9, Body: make([]byte, api.BodySize)})
}

// P5.1: a Body has BodySize bytes, neither fewer nor more.
func TestSealBodies(t *testing.T) {
	for _, kind := range kinds {
		unsealed(t, api.Page{Kind: kind, LSN: 7})
		for size := range 2*api.BodySize + 20 {
			p := api.Page{Kind: kind, LSN: 7, Body: some(3, size)}
			if size == api.BodySize {
				sealed(t, p)
			} else {
				unsealed(t, p)
			}
		}
		unsealed(t, api.Page{Kind: kind, LSN: 7, Body: some(4, 256+api.BodySize)})
		unsealed(t, api.Page{Kind: kind, LSN: 7, Body: some(4, 1<<16+api.BodySize)})
		unsealed(t, api.Page{Kind: kind, LSN: 7, Body: make([]byte, 0, api.BodySize)})
	}
}

// P5.1: neither a Kind nor a Body.
func TestSealNeither(t *testing.T) {
	unsealed(t, api.Page{})
	for _, kind := range []int{-1, 0, 6, 9, 255, 257} {
		unsealed(t, api.Page{Kind: kind})
		unsealed(t, api.Page{Kind: kind, LSN: 1, Body: some(5, api.BodySize-1)})
		unsealed(t, api.Page{Kind: kind, LSN: 1, Body: some(5, api.BodySize+1)})
	}
}

// P5.2: what another program has laid is opened, each part from its place.
func TestOpenParts(t *testing.T) {
	for _, p := range pages() {
		q := opened(t, laid(byte(p.Kind), p.LSN, p.Body))
		if !alike(p, q) || len(q.Body) != api.BodySize {
			t.Fatalf("Open of kind %d, LSN %d, Body %.20x: %d, %d, %.20x", p.Kind, p.LSN, p.Body, q.Kind, q.LSN, q.Body)
		}
	}
}

// P5.2: bytes that are not PageSize are no page, be their sum right or not.
func TestOpenLengths(t *testing.T) {
	refused(t, nil, api.ErrPage)
	whole := sealed(t, api.Page{Kind: api.PgLeaf, LSN: 7, Body: some(6, api.BodySize)})
	for size := range 2*api.PageSize + 20 {
		if size == api.PageSize {
			continue
		}
		refused(t, make([]byte, size), api.ErrPage)
		refused(t, bytes.Repeat([]byte{1}, size), api.ErrPage)
		refused(t, some(7, size), api.ErrPage)
		refused(t, append(slices.Clone(whole), make([]byte, size)...)[:size], api.ErrPage)
		if size >= 4 {
			refused(t, summed(some(8, size-4)), api.ErrPage)
		}
		if size >= 13 {
			refused(t, laid(api.PgLeaf, 7, some(9, size-13)), api.ErrPage) // but for its length it is a page
		}
	}
	refused(t, append(slices.Clone(whole), whole...), api.ErrPage)
	refused(t, whole[1:], api.ErrPage)
	refused(t, whole[:0:api.PageSize], api.ErrPage)
	refused(t, laid(api.PgLeaf, 7, some(9, 1<<16+api.BodySize)), api.ErrPage)
}

// P5.2: a sum that is not right, be the first byte a Kind or not.
func TestOpenSums(t *testing.T) {
	refused(t, make([]byte, api.PageSize), api.ErrCheck)
	refused(t, bytes.Repeat([]byte{1}, api.PageSize), api.ErrCheck)
	refused(t, some(10, api.PageSize), api.ErrCheck)
	for kind := range 256 {
		b := laid(byte(kind), 7, some(11, api.BodySize))
		for i := range b[:4] {
			c := slices.Clone(b)
			c[252+i] ^= 1
			refused(t, c, api.ErrCheck)
		}
		c := slices.Clone(b)
		slices.Reverse(c[252:]) // the lowest byte first
		refused(t, c, api.ErrCheck)
		copy(c[252:], make([]byte, 4))
		refused(t, c, api.ErrCheck)
		copy(c[252:], crc.Put(b[1:252])[251:]) // the sum of all but the Kind
		refused(t, c, api.ErrCheck)
		copy(c[252:], crc.Put(b[9:252])[243:]) // the sum of the Body alone
		refused(t, c, api.ErrCheck)
	}
}

// P5.2: a sum that is right, and a first byte that is a Kind, or none.
func TestOpenKinds(t *testing.T) {
	for kind := range 256 {
		b := laid(byte(kind), 1<<40, some(12, api.BodySize))
		if !slices.Contains(kinds, kind) {
			refused(t, b, api.ErrPage)
		} else if p := opened(t, b); p.Kind != kind {
			t.Errorf("Open of kind %d: %d", kind, p.Kind)
		}
	}
	refused(t, summed(make([]byte, 252)), api.ErrPage)
}

// P5.2: which error comes first, where a byte alone makes the difference.
func TestOpenOrder(t *testing.T) {
	b := laid(9, 7, some(13, api.BodySize))
	refused(t, b, api.ErrPage)
	b[100] ^= 4
	refused(t, b, api.ErrCheck)
	refused(t, b[:255], api.ErrPage)
	refused(t, append(b, 0), api.ErrPage)
}

// P5.2: pages that have the same parts, wherever these lie, and be they ones that can be sealed or not.
func TestSameOfSame(t *testing.T) {
	all := pages()
	for _, kind := range append([]int{0, 6, 9, 255}, noKinds...) {
		for _, size := range []int{0, 1, api.BodySize - 1, api.BodySize, api.BodySize + 1, 1000} {
			all = append(all, api.Page{Kind: kind, LSN: 7, Body: some(14, size)})
		}
	}
	for _, p := range all {
		q := p
		q.Body = slices.Clone(p.Body)
		if !page.Same(p, p) || !page.Same(p, q) || !page.Same(q, p) {
			t.Fatalf("kind %d, LSN %d, %d bytes: not the same as itself", p.Kind, p.LSN, len(p.Body))
		}
	}
	p, q := api.Page{Kind: api.PgFree, LSN: 3}, api.Page{Kind: api.PgFree, LSN: 3, Body: []byte{}}
	if !page.Same(p, q) || !page.Same(q, p) || !page.Same(api.Page{}, api.Page{}) {
		t.Error("pages of no bytes are not the same")
	}
	roomy, _ := withRoom(rising())
	p, q = api.Page{Kind: 1, LSN: 1, Body: roomy}, api.Page{Kind: 1, LSN: 1, Body: rising()}
	if !page.Same(p, q) || !page.Same(q, p) {
		t.Error("spare room has a part in whether pages are the same")
	}
}

// differ fails unless Same tells p and q apart.
func differ(t *testing.T, p, q api.Page) {
	t.Helper()
	if page.Same(p, q) || page.Same(q, p) {
		t.Fatalf("kind %d, LSN %d, Body %.20x and kind %d, LSN %d, Body %.20x are the same", p.Kind, p.LSN, p.Body, q.Kind, q.LSN, q.Body)
	}
}

// P5.2: pages that differ in one of their parts alone.
func TestSameOfUnlike(t *testing.T) {
	p := api.Page{Kind: api.PgLeaf, LSN: 7, Body: some(15, api.BodySize)}
	for _, kind := range append([]int{0, 1, 2, 4, 5, 6, 9, 255}, noKinds...) {
		differ(t, p, api.Page{Kind: kind, LSN: p.LSN, Body: p.Body})
	}
	for i := range 64 {
		differ(t, p, api.Page{Kind: p.Kind, LSN: p.LSN ^ 1<<i, Body: p.Body})
	}
	for i := range 8 * api.BodySize {
		q := api.Page{Kind: p.Kind, LSN: p.LSN, Body: slices.Clone(p.Body)}
		q.Body[i/8] ^= 1 << (i % 8)
		differ(t, p, q)
	}
	for size := range p.Body {
		differ(t, p, api.Page{Kind: p.Kind, LSN: p.LSN, Body: p.Body[:size]})
		differ(t, p, api.Page{Kind: p.Kind, LSN: p.LSN, Body: p.Body[size+1:]})
	}
	differ(t, p, api.Page{Kind: p.Kind, LSN: p.LSN})
	differ(t, p, api.Page{Kind: p.Kind, LSN: p.LSN, Body: append(slices.Clone(p.Body), 0)})
	differ(t, p, api.Page{})
	differ(t, api.Page{Body: []byte{0}}, api.Page{})
	differ(t, api.Page{Body: []byte{0}}, api.Page{Body: []byte{0, 0}})
}

// P5.3: what is sealed is opened, and what is opened seals to the same bytes.
func TestThereAndBack(t *testing.T) {
	for _, p := range pages() {
		b := sealed(t, p)
		q := opened(t, b)
		if !page.Same(p, q) || !page.Same(q, p) || !alike(p, q) {
			t.Fatalf("kind %d, LSN %d, Body %.20x: back is %d, %d, %.20x", p.Kind, p.LSN, p.Body, q.Kind, q.LSN, q.Body)
		}
		if c := sealed(t, q); !bytes.Equal(b, c) {
			t.Fatalf("kind %d, LSN %d: %x, and once more %x", p.Kind, p.LSN, b, c)
		}
	}
}

// P5.3: unlike pages are unlike bytes, those too that differ in one bit, ahead of the sum too.
func TestUnlikeBytes(t *testing.T) {
	of := map[string]api.Page{}
	take := func(p api.Page) {
		t.Helper()
		content := string(sealed(t, p)[:252])
		if q, ok := of[content]; ok && !alike(p, q) {
			t.Fatalf("kind %d, LSN %d and kind %d, LSN %d have the same bytes", p.Kind, p.LSN, q.Kind, q.LSN)
		}
		of[content] = p
	}
	all := pages()
	for _, p := range all {
		take(p)
	}
	if len(of) != len(all) {
		t.Errorf("%d pages have %d texts", len(all), len(of))
	}
	for i := range 8 * api.BodySize {
		p := api.Page{Kind: api.PgOver, LSN: 99, Body: rising()}
		p.Body[i/8] ^= 1 << (i % 8)
		take(p)
	}
}

// P5.4: each byte of a sealed page as each other one; a first byte that is no Kind is no reason of its own.
func TestTurned(t *testing.T) {
	for _, p := range []api.Page{
		{Kind: api.PgHead, LSN: 0, Body: make([]byte, api.BodySize)},
		{Kind: api.PgLeaf, LSN: 0x0102030405060708, Body: some(16, api.BodySize)},
	} {
		b := sealed(t, p)
		for i := range b {
			was := b[i]
			for n := 1; n < 256; n++ {
				b[i] = was ^ byte(n)
				refused(t, b, api.ErrCheck)
			}
			b[i] = was
		}
		opened(t, b)
	}
	for _, kind := range kinds {
		b := sealed(t, api.Page{Kind: kind, LSN: 5, Body: some(17, api.BodySize)})
		for i := range b {
			for _, n := range []byte{1, 128, 255} {
				b[i] ^= n
				refused(t, b, api.ErrCheck)
				b[i] ^= n
			}
		}
	}
}

func TestNothingHandedInIsChanged(t *testing.T) {
	for _, kind := range append([]int{0, 9}, kinds...) { // with an error, too
		body, whole := withRoom(some(18, api.BodySize))
		before := slices.Clone(whole)
		p := api.Page{Kind: kind, LSN: 7, Body: body}
		page.Seal(p)
		page.Same(p, api.Page{Kind: kind, LSN: 7, Body: some(19, api.BodySize)})
		if !bytes.Equal(whole, before) {
			t.Errorf("kind %d: Seal or Same changed %x to %x", kind, before, whole)
		}
		b, whole := withRoom(laid(byte(kind), 7, body))
		before = slices.Clone(whole)
		page.Open(b)
		page.Open(b[:255])
		page.Open(whole[1:257])
		if !bytes.Equal(whole, before) {
			t.Errorf("kind %d: Open changed %x to %x", kind, before, whole)
		}
	}
}

// What is handed in may be changed behind a call, and what is answered too: neither is seen in the other.
func TestAnswersShareNothing(t *testing.T) {
	for _, kind := range kinds {
		body, whole := withRoom(some(20, api.BodySize))
		p := api.Page{Kind: kind, LSN: 7, Body: body}
		want := laid(byte(kind), 7, body)
		b := sealed(t, p)
		turn(body)
		if !bytes.Equal(b, want) {
			t.Fatalf("kind %d: what Seal answered hangs on the Body that was handed in", kind)
		}
		before := slices.Clone(whole)
		turn(b)
		if !bytes.Equal(whole, before) {
			t.Fatalf("kind %d: what Seal answered shares memory with the Body", kind)
		}

		b, whole = withRoom(want)
		before = slices.Clone(whole)
		q, r := opened(t, b), opened(t, b)
		turn(q.Body)
		_ = append(q.Body, 1, 2, 3, 4, 5)
		if !bytes.Equal(whole, before) || !bytes.Equal(r.Body, want[9:252]) {
			t.Fatalf("kind %d: what Open answered shares memory with its bytes, or with another answer", kind)
		}
		turn(b)
		if !bytes.Equal(r.Body, want[9:252]) {
			t.Fatalf("kind %d: what Open answered hangs on the bytes that were handed in", kind)
		}
	}
}

// What Seal and Open answer hangs on their arguments alone, not on what was sealed and opened ahead.
func TestNothingIsKept(t *testing.T) {
	p := api.Page{Kind: api.PgInner, LSN: 77, Body: some(21, api.BodySize)}
	q := api.Page{Kind: api.PgFree, LSN: 78, Body: some(22, api.BodySize)}
	b, c := sealed(t, p), sealed(t, q)
	unsealed(t, api.Page{Kind: 9, Body: p.Body})
	refused(t, some(23, api.PageSize), api.ErrCheck)
	if !bytes.Equal(b, laid(2, 77, p.Body)) || !bytes.Equal(sealed(t, p), b) || !bytes.Equal(sealed(t, q), c) {
		t.Error("a page's bytes hang on another page")
	}
	if !alike(opened(t, b), p) || !alike(opened(t, c), q) || !alike(opened(t, b), p) {
		t.Error("a page hangs on another one's bytes")
	}
}
