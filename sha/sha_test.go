package sha_test

import (
	"bytes"
	"crypto/sha256"
	"encoding/binary"
	"math/big"
	"math/bits"
	"math/rand"
	"slices"
	"strings"
	"testing"

	"scow/api"
	"scow/sha"
)

// edges are the lengths around which the last block is filled in one way or another.
var edges = []int{0, 1, 2, 3, 54, 55, 56, 57, 62, 63, 64, 65, 118, 119, 120, 121, 126, 127, 128, 129, 183, 184, 191, 192, 193}

// some are bytes of the given size that are the same in each run.
func some(seed int64, size int) []byte {
	p := make([]byte, size)
	rand.New(rand.NewSource(seed)).Read(p)
	return p
}

// primes are the first n of them.
func primes(n int) []int64 {
	var l []int64
	for p := int64(2); len(l) < n; p++ {
		if big.NewInt(p).ProbablyPrime(0) {
			l = append(l, p)
		}
	}
	return l
}

// fraction is the first 32 bits of the fraction of p's root of that degree: the low bits of the whole root of p times 2 to the 32 times degree.
func fraction(p int64, degree int) uint32 {
	most := new(big.Int).Lsh(big.NewInt(p), uint(32*degree))
	root := new(big.Int)
	for bit := 40; bit >= 0; bit-- {
		next := new(big.Int).SetBit(root, bit, 1)
		if new(big.Int).Exp(next, big.NewInt(int64(degree)), nil).Cmp(most) <= 0 {
			root = next
		}
	}
	return uint32(root.Uint64())
}

// plain is P3.1 word by word.
type plain struct {
	h, k []uint32
}

func newPlain() plain {
	var p plain
	for _, n := range primes(8) {
		p.h = append(p.h, fraction(n, 2))
	}
	for _, n := range primes(64) {
		p.k = append(p.k, fraction(n, 3))
	}
	return p
}

func right(n uint32, by int) uint32 { return bits.RotateLeft32(n, -by) }

func (p plain) sum(text []byte) api.Sum {
	b := append(slices.Clone(text), 128)
	for len(b)%64 != 56 {
		b = append(b, 0)
	}
	b = binary.BigEndian.AppendUint64(b, uint64(8*len(text)))
	words := slices.Clone(p.h)
	for block := range slices.Chunk(b, 64) {
		var w [64]uint32
		for t := range w {
			if t < 16 {
				w[t] = binary.BigEndian.Uint32(block[4*t:])
				continue
			}
			m, n := w[t-2], w[t-15]
			w[t] = (right(m, 17) ^ right(m, 19) ^ m>>10) + w[t-7] + (right(n, 7) ^ right(n, 18) ^ n>>3) + w[t-16]
		}
		v := slices.Clone(words)
		for t := range w {
			x := v[7] + (right(v[4], 6) ^ right(v[4], 11) ^ right(v[4], 25)) + (v[4]&v[5] ^ ^v[4]&v[6]) + p.k[t] + w[t]
			y := (right(v[0], 2) ^ right(v[0], 13) ^ right(v[0], 22)) + (v[0]&v[1] ^ v[0]&v[2] ^ v[1]&v[2])
			v = []uint32{x + y, v[0], v[1], v[2], v[3] + x, v[4], v[5], v[6]}
		}
		for i := range words {
			words[i] += v[i]
		}
	}
	var s api.Sum
	for i, n := range words {
		binary.BigEndian.PutUint32(s[4*i:], n)
	}
	return s
}

func TestSumExample(t *testing.T) {
	want := "ba7816bf8f01cfea414140de5dae2223b00361a396177a9cb410ff61f20015ad"
	if s := sha.Hex(sha.Sum([]byte("abc"))); s != want {
		t.Errorf("Sum of abc: %s", s)
	}
}

func TestSumKnown(t *testing.T) { // from FIPS 180-4's examples
	for _, c := range []struct{ text, hex string }{
		{"", "e3b0c44298fc1c149afbf4c8996fb92427ae41e4649b934ca495991b7852b855"},
		{"abcdbcdecdefdefgefghfghighijhijkijkljklmklmnlmnomnopnopq", "248d6a61d20638b8e5c026930c3e6039a33ce45964ff2167f6ecedd419db06c1"},
		{strings.Repeat("a", 1000000), "cdc76e5c9914fb9281a1c7e284d73e67f1809a48a497200e046d39ccc7112cd0"},
	} {
		if s := sha.Hex(sha.Sum([]byte(c.text))); s != c.hex {
			t.Errorf("Sum of %.60q: %s, not %s", c.text, s, c.hex)
		}
	}
}

func TestSumOfNothing(t *testing.T) {
	want := api.Sum(sha256.Sum256(nil))
	for _, s := range []api.Sum{sha.Sum(), sha.Sum(nil), sha.Sum([]byte{}), sha.Sum(nil, []byte{}, nil), sha.New().Sum()} {
		if s != want {
			t.Errorf("a digest of nothing is %x", s)
		}
	}
}

func TestSumOfOnePart(t *testing.T) {
	p := newPlain()
	for size := range 300 {
		for _, text := range [][]byte{some(int64(size), size), make([]byte, size), bytes.Repeat([]byte{255}, size), bytes.Repeat([]byte{128}, size)} {
			s := sha.Sum(text)
			if s != p.sum(text) || s != api.Sum(sha256.Sum256(text)) {
				t.Fatalf("Sum of %d bytes %.20x: %x, not %x", size, text, s, p.sum(text))
			}
		}
	}
	for _, size := range []int{1000, 8191, 8192, 8193, 70000, 1 << 21} { // 70000: a length of three bytes; 2^21: one of four
		text := some(int64(size), size)
		if s := sha.Sum(text); s != api.Sum(sha256.Sum256(text)) {
			t.Errorf("Sum of %d bytes: %x", size, s)
		}
	}
}

func TestSumOfLong(t *testing.T) { // the length in bits has more than four bytes
	h, other, piece := sha.New(), sha256.New(), make([]byte, 1<<20)
	for range 1 << 9 {
		h.Write(piece)
		other.Write(piece)
	}
	h.Write([]byte{1})
	other.Write([]byte{1})
	if s := h.Sum(); !bytes.Equal(s[:], other.Sum(nil)) {
		t.Errorf("the digest of 2^29 + 1 bytes: %x", s)
	}
}

// TestSumOfManyParts: P3.1 and P3.4, cut in two and three at every place.
func TestSumOfManyParts(t *testing.T) {
	for _, size := range edges {
		p := some(int64(size), size)
		want := api.Sum(sha256.Sum256(p))
		for i := range size + 1 {
			if s := sha.Sum(p[:i], nil, p[i:], []byte{}); s != want {
				t.Fatalf("%d bytes in parts up to %d with empty ones: %x, not %x", size, i, s, want)
			}
			for j := i; j <= size; j += 5 {
				if s := sha.Sum(p[:i], p[i:j], p[j:]); s != want {
					t.Fatalf("%d bytes in parts up to %d, %d: %x, not %x", size, i, j, s, want)
				}
			}
		}
	}
}

func TestSumTellsOrder(t *testing.T) {
	if sha.Sum([]byte("ab"), []byte("cd")) == sha.Sum([]byte("cd"), []byte("ab")) {
		t.Error("parts turned round have the same digest")
	}
}

// TestWriteInPieces: P3.4, a Hash that takes pieces of every size from 1 to 130 in, and of mixed ones.
func TestWriteInPieces(t *testing.T) {
	text := some(1, 1000)
	want := api.Sum(sha256.Sum256(text))
	for size := 1; size <= 130; size++ {
		h := sha.New()
		for piece := range slices.Chunk(text, size) {
			if n := h.Write(piece); n != len(piece) {
				t.Fatalf("Write of %d bytes: %d", len(piece), n)
			}
		}
		if s := h.Sum(); s != want {
			t.Fatalf("1000 bytes by %d: %x, not %x", size, s, want)
		}
	}
	r := rand.New(rand.NewSource(2))
	for range 300 {
		h, rest := sha.New(), text
		for len(rest) > 0 {
			n := min(r.Intn(200), len(rest))
			h.Write(rest[:n])
			rest = rest[n:]
		}
		if s := h.Sum(); s != want {
			t.Fatalf("1000 bytes in mixed pieces: %x, not %x", s, want)
		}
	}
}

// TestSumAndWriteInTurn: P3.2, asked at each moment, twice, and going on.
func TestSumAndWriteInTurn(t *testing.T) {
	text := some(3, 400)
	for _, step := range []int{1, 7, 55, 64, 65, 130} {
		h := sha.New()
		for at := 0; at < len(text); at += step {
			end := min(at+step, len(text))
			want := api.Sum(sha256.Sum256(text[:at]))
			if s, again := h.Sum(), h.Sum(); s != want || again != want {
				t.Fatalf("the digest of the first %d bytes: %x, then %x, not %x", at, s, again, want)
			}
			if n := h.Write(text[at:end]); n != end-at {
				t.Fatalf("Write of %d bytes: %d", end-at, n)
			}
		}
		if s := h.Sum(); s != api.Sum(sha256.Sum256(text)) {
			t.Fatalf("the digest of all, by %d: %x", step, s)
		}
	}
}

func TestWriteOfNothing(t *testing.T) {
	h := sha.New()
	for _, size := range edges {
		text := some(4, size)
		h = sha.New()
		for _, p := range [][]byte{nil, {}, text, nil, {}} {
			if n := h.Write(p); n != len(p) {
				t.Errorf("Write of %d bytes: %d", len(p), n)
			}
		}
		if s := h.Sum(); s != api.Sum(sha256.Sum256(text)) {
			t.Errorf("%d bytes with nothing ahead and behind: %x", size, s)
		}
	}
}

func TestHashesHaveNoPartInOneAnother(t *testing.T) {
	a, b := sha.New(), sha.New()
	text := some(5, 300)
	for i := range text {
		a.Write(text[i : i+1])
		b.Write([]byte{^text[i], 7})
	}
	if s := a.Sum(); s != api.Sum(sha256.Sum256(text)) {
		t.Errorf("the one digest: %x", s)
	}
	var other []byte
	for _, n := range text {
		other = append(other, ^n, 7)
	}
	if s := b.Sum(); s != api.Sum(sha256.Sum256(other)) {
		t.Errorf("the other digest: %x", s)
	}
	if s := sha.New().Sum(); s != api.Sum(sha256.Sum256(nil)) {
		t.Errorf("a new Hash behind them: %x", s)
	}
}

func TestNilHash(t *testing.T) {
	var h *sha.Hash
	for _, p := range [][]byte{nil, {}, []byte("abc"), some(6, 200)} {
		if n := h.Write(p); n != 0 {
			t.Errorf("Write of %d bytes to nil: %d", len(p), n)
		}
		if s := h.Sum(); s != (api.Sum{}) {
			t.Errorf("Sum of nil: %x", s)
		}
	}
}

// digests have every byte at every place.
func digests() []api.Sum {
	l := []api.Sum{{}, sha.Sum(), sha.Sum([]byte("abc"))}
	for n := range 256 {
		var all, mixed api.Sum
		for i := range all {
			all[i], mixed[i] = byte(n), byte(n+7*i)
		}
		l = append(l, all, mixed)
	}
	return l
}

// hexOf is P3.3 sign by sign.
func hexOf(s api.Sum) string {
	t := ""
	for _, b := range s {
		for _, n := range []byte{b / 16, b % 16} {
			if n < 10 {
				t += string(rune('0' + n))
			} else {
				t += string(rune('a' + n - 10))
			}
		}
	}
	return t
}

func TestHexAndParse(t *testing.T) {
	for _, s := range digests() {
		text := sha.Hex(s)
		if text != hexOf(s) {
			t.Errorf("Hex of %v: %q", s[:], text)
		}
		if back, ok := sha.Parse(text); !ok || back != s {
			t.Errorf("Parse of %q: %v, %v", text, back[:], ok)
		}
	}
}

// refused fails unless Parse has nothing to say of the text.
func refused(t *testing.T, text, why string) {
	t.Helper()
	if s, ok := sha.Parse(text); ok || s != (api.Sum{}) {
		t.Fatalf("Parse of %q: %x, %v; %s", text, s, ok, why)
	}
}

func TestParseOfOtherSizes(t *testing.T) {
	text := sha.Hex(sha.Sum([]byte("abc")))
	for size := range text {
		refused(t, text[:size], "it is too short")
		refused(t, text[size+1:], "it is too short")
	}
	for _, more := range []string{"0", "f", " ", "\n", "\x00", "00", text} {
		refused(t, text+more, "it is too long")
		refused(t, more+text, "it is too long")
	}
	refused(t, "0x"+text[2:], "it has a sign that is no digit")
	refused(t, strings.Repeat("é", 32), "it has 64 bytes, but no digits")
}

func TestParseOfOtherSigns(t *testing.T) {
	for _, text := range []string{sha.Hex(sha.Sum([]byte("abc"))), strings.Repeat("0", 64), strings.Repeat("f", 64)} {
		for at := range text {
			for n := range 256 {
				if strings.IndexByte("0123456789abcdef", byte(n)) >= 0 {
					continue
				}
				refused(t, text[:at]+string([]byte{byte(n)})+text[at+1:], "it has a sign that is no digit")
			}
		}
	}
	refused(t, strings.ToUpper(sha.Hex(sha.Sum([]byte("abc")))), "its letters are capitals")
}

func TestNothingHandedInIsChanged(t *testing.T) {
	for _, size := range edges {
		whole := some(int64(size), size+200)
		before := slices.Clone(whole)
		p := whole[:size]
		sha.Sum(p, p)
		h := sha.New()
		h.Write(p)
		h.Write(p)
		h.Sum()
		if !bytes.Equal(whole, before) {
			t.Fatalf("Sum or Write of %d bytes changed them, or their spare room", size)
		}
	}
}

func TestNothingHandedInIsKept(t *testing.T) {
	for _, size := range edges {
		p := some(int64(size), size)
		want := api.Sum(sha256.Sum256(slices.Concat(p, p)))
		h := sha.New()
		first := slices.Clone(p)
		h.Write(first)
		clear(first)
		h.Write(p)
		if s := h.Sum(); s != want {
			t.Fatalf("the digest of %d bytes, twice, is another one as they are changed behind Write", size)
		}
	}
}

func TestAnswersShareNothing(t *testing.T) {
	h := sha.New()
	h.Write([]byte("abc"))
	s := h.Sum()
	clear(s[:])
	if again := h.Sum(); again != api.Sum(sha256.Sum256([]byte("abc"))) {
		t.Errorf("the digest behind a change of an answer: %x", again)
	}
}
