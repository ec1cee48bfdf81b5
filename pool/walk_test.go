package pool_test

import (
	"bytes"
	"math"
	"math/rand/v2"
	"slices"
	"testing"

	"scow/api"
	"scow/pool"
)

// walk does so many things to a pair that are as they come: to pages about the first ones and the end, with nodes that may be and ones that may not.
func walk(p *pair, r *rand.Rand, steps int) {
	p.t.Helper()
	all := append(nodes(), noNodes()...)
	for range steps {
		end := p.m.head.Pages
		n := r.Uint32N(min(end, 12) + 2)
		if r.IntN(4) == 0 {
			n = end - 2 + r.Uint32N(5)
		}
		switch r.IntN(9) {
		case 0, 1:
			p.put(n, all[r.IntN(len(all))])
		case 2:
			p.put(n, api.Node{Kind: api.PgFree, Next: r.Uint32N(end + 2)})
		case 3, 4:
			p.alloc()
		case 5, 6:
			p.free(n)
		case 7:
			p.setRoot(n)
		case 8:
			p.count([]int{0, 1, -1, 1 << 31, -1 << 31, 1<<31 + 1, math.MinInt}[r.IntN(7)])
		}
	}
}

// P9.3 to P9.6: whatever is done, each answer is the document's, and with an error nothing is changed.
func TestWalks(t *testing.T) {
	for seed := range uint64(60) {
		r := rand.New(rand.NewPCG(seed, 9))
		s := small(7, []uint32{3, 5, 2}[:r.IntN(4)]...)
		for range r.IntN(3) {
			s.Pages[1+r.IntN(6)] = [][]byte{nil, some(3, 256), freeBytes(1, 7), freeBytes(1, 6)}[r.IntN(4)]
		}
		switch seed % 4 {
		case 0:
			walk(fresh(t, seed), r, 60)
		case 1:
			walk(begun(t, s, seed), r, 60)
		case 2:
			walk(begun(t, odd{s.Pages, map[uint32]error{1 + r.Uint32N(8): api.ErrIO}}, seed), r, 60)
		case 3:
			walk(begun(t, small(509, 508, 4), seed), r, 30)
		}
	}
}

// laidOver is a source's pages with those that were changed laid over them.
func laidOver(pages [][]byte, l []api.Image) pool.Mem {
	pages = slices.Clone(pages)
	for _, i := range l {
		for int(i.N) >= len(pages) {
			pages = append(pages, nil)
		}
		pages[i.N] = i.B
	}
	return pool.Mem{Pages: pages}
}

// P9.6: what was changed, laid over the source, shows the same, and is no change there.
func TestChangesLaidOver(t *testing.T) {
	for seed := range uint64(40) {
		r := rand.New(rand.NewPCG(seed, 96))
		s := small(7, []uint32{3, 5, 2}[:r.IntN(4)]...)
		p := begun(t, s, seed)
		if seed%4 == 0 {
			s.Pages = nil
			p = fresh(t, seed)
		}
		walk(p, r, int(seed))
		if len(p.x.Changes()) == 0 {
			continue
		}
		q := begun(t, laidOver(s.Pages, p.x.Changes()), 1000)
		if q.x.Head() != p.x.Head() || len(q.x.Changes()) != 0 {
			t.Fatal(q.x.Head(), p.x.Head())
		}
		for n := range p.x.Head().Pages {
			b, err := p.x.Page(n)
			if err != nil {
				continue // given out, and not put: nobody has it
			}
			if c, err := q.x.Page(n); err != nil || !bytes.Equal(b, c) {
				t.Fatalf("page %d: %x, not %x", n, c, b)
			}
		}
		walk(q, r, 20)
	}
}

// P9.7: of lists of free pages that are ones, no page is given out twice, unless it was taken back; the last one first.
func TestGivenOnce(t *testing.T) {
	for seed := range uint64(30) {
		r := rand.New(rand.NewPCG(seed, 97))
		free := []uint32{3, 9, 5, 2, 8, 4}[:r.IntN(7)]
		p := begun(t, small(10, free...), 3)
		out := map[uint32]bool{1: true}
		for n := uint32(2); n < 10; n++ {
			out[n] = !slices.Contains(free, n)
		}
		stack := slices.Clone(free)
		slices.Reverse(stack)
		for range 80 {
			if r.IntN(5) < 2 {
				n := 1 + r.Uint32N(p.m.head.Pages-1)
				if !out[n] {
					continue
				}
				refused(t, p.free(n), api.OK)
				out[n] = false
				stack = append(stack, n)
				continue
			}
			n, e := p.alloc()
			if e != api.OK || out[n] {
				t.Fatal("given out twice: ", n, e)
			}
			if k := len(stack); k > 0 {
				if n != stack[k-1] {
					t.Fatalf("%d is given out, and not %d", n, stack[k-1])
				}
				stack = stack[:k-1]
			}
			out[n] = true
			if r.IntN(2) == 0 {
				p.put(n, over(int(n)))
			}
		}
	}
}
