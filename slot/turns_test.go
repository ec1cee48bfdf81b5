package slot_test

import (
	"fmt"
	"math/rand"
	"slices"
	"testing"

	"scow/api"
	"scow/slot"
)

// step does one thing, by chance, to s, and tells what it answered; cells are below that length, but for a few.
func step(r *rand.Rand, s cells, below int) string {
	i, n := r.Intn(s.Len()+2), r.Intn(20)
	if r.Intn(30) == 0 {
		i = r.Intn(600) - 300
	}
	size := r.Intn(below)
	if r.Intn(30) == 0 {
		size = r.Intn(90)
	}
	switch {
	case n < 12:
		return fmt.Sprint("insert ", i, " of ", size, ": ", s.Insert(i, some(r.Int63(), size)))
	case n < 19:
		return fmt.Sprint("delete ", i, ": ", s.Delete(i))
	}
	s.Pack()
	return "pack"
}

// P6.1 to P6.5: whatever is done, a body answers, and is, what the plain one is, byte by byte.
func TestAsThePlainOne(t *testing.T) {
	for seed := range int64(120) {
		below := []int{1, 2, 5, 12, 40, 79}[seed%6]
		s, p := slot.New(), newPlain()
		if seed%4 == 0 {
			b := scattered(rand.New(rand.NewSource(seed)))
			s, p = parsed(t, b), plainOf(b)
		}
		one, two := rand.New(rand.NewSource(seed)), rand.New(rand.NewSource(seed))
		for range 300 {
			did, want := step(one, s, below), step(two, p, below)
			if did != want {
				t.Fatalf("seed %d: %s, not %s", seed, did, want)
			}
			shows(t, s, p, did)
		}
	}
}

// P6.6: the cells are those of a list, and room is told by their lengths alone; P6.7: Parse of Bytes shows the same, and goes on the same.
func TestAList(t *testing.T) {
	full, packed := 0, 0
	for seed := range int64(60) {
		r, s := rand.New(rand.NewSource(seed)), slot.New()
		below := []int{1, 3, 10, 30, 79}[seed%5]
		var list [][]byte
		for range 400 {
			i, c := r.Intn(len(list)+1), some(r.Int63(), r.Intn(below))
			free := 243 - 2
			for _, other := range list {
				free -= 2 + len(other)
			}
			switch n := r.Intn(10); {
			case n == 0:
				s.Pack()
				if s.Holes() != 0 {
					t.Fatalf("seed %d: %d in holes behind Pack", seed, s.Holes())
				}
			case n < 4 && i < len(list):
				remove(t, s, i)
				list = slices.Delete(list, i, i+1)
			case 2+len(c) > free:
				wrong(t, s, i, c, api.ErrRoom)
				full++
			default:
				holes := s.Holes()
				insert(t, s, i, c)
				list = slices.Insert(list, i, c)
				if s.Holes() < holes {
					packed++
				}
			}
			holds(t, s, list...)
			back := parsed(t, s.Bytes())
			holds(t, back, list...)
			if look(back) != look(s) {
				t.Fatalf("seed %d: Parse of Bytes shows\n%s, not\n%s", seed, look(back), look(s))
			}
			if r.Intn(3) == 0 { // now and then it is the parsed one that goes on
				s = back
			}
		}
	}
	if full < 500 || packed < 100 {
		t.Errorf("only %d had no room, %d were packed first", full, packed)
	}
}

// P6.7: a body, and what is parsed of its Bytes, answer the same to whatever is done to both.
func TestThereAndBackGoOn(t *testing.T) {
	for seed := range int64(60) {
		r := rand.New(rand.NewSource(seed))
		s := parsed(t, scattered(r))
		below := []int{2, 10, 40}[seed%3]
		for range 60 {
			step(r, s, below)
		}
		back := parsed(t, s.Bytes())
		one, two := rand.New(rand.NewSource(seed)), rand.New(rand.NewSource(seed))
		for range 60 {
			did, want := step(one, back, below), step(two, s, below)
			if did != want || look(back) != look(s) {
				t.Fatalf("seed %d: %s, not %s; it is\n%s, not\n%s", seed, did, want, look(back), look(s))
			}
		}
	}
}

// Rule 4: bodies that are done the same are the same, and none has a part in what is done to another one.
func TestBodiesGoTheirOwnWays(t *testing.T) {
	for seed := range int64(20) {
		one, two, three := rand.New(rand.NewSource(seed)), rand.New(rand.NewSource(seed)), rand.New(rand.NewSource(seed+1000))
		a, b, other := slot.New(), slot.New(), slot.New()
		for range 200 {
			did := step(one, a, 30)
			was := look(a)
			step(three, other, 30)
			if want := step(two, b, 30); did != want || look(a) != was || look(b) != was {
				t.Fatalf("seed %d: %s, and of another body %s", seed, did, want)
			}
		}
	}
}
