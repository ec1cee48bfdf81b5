package vint_test

import (
	"bytes"
	"math"
	"slices"
	"testing"

	"scow/api"
	"scow/vint"
)

// edges are numbers about each one at which a Put gets longer, and some between.
func edges() []uint64 {
	l := []uint64{0, 1, 2, 100, 255, 256, 300, 258, 65535, 65536, 1<<32 - 1, 1 << 32, math.MaxUint64}
	for i := 1; i < 64; i++ {
		l = append(l, 1<<i-1, 1<<i, 1<<i+1)
	}
	for n := uint64(1); n < 1<<63; n = n*3 + 7 {
		l = append(l, n)
	}
	slices.Sort(l)
	return slices.Compact(l)
}

// repeat is c so many times, and what stands behind it.
func repeat(c byte, n int, behind ...byte) []byte {
	return append(bytes.Repeat([]byte{c}, n), behind...)
}

// P1.1: the bytes themselves, told by hand.
func TestPutTold(t *testing.T) {
	for _, c := range []struct {
		n    uint64
		want []byte
	}{
		{0, []byte{0}},
		{1, []byte{1}},
		{127, []byte{127}},
		{128, []byte{128, 1}},
		{129, []byte{129, 1}},
		{300, []byte{172, 2}},
		{16383, []byte{255, 127}},
		{16384, []byte{128, 128, 1}},
		{1 << 62, repeat(128, 8, 64)},
		{1<<63 - 1, repeat(255, 8, 127)},
		{1 << 63, repeat(128, 9, 1)},
		{math.MaxUint64, repeat(255, 9, 1)},
	} {
		if got := vint.Put(c.n); !bytes.Equal(got, c.want) {
			t.Errorf("Put(%d) = %v, not %v", c.n, got, c.want)
		}
	}
}

// P1.1: the groups make the number, all bytes but the last one are 128 at least, and none is left out that could be.
func TestPutShape(t *testing.T) {
	for _, n := range edges() {
		b := vint.Put(n)
		if len(b) < 1 || len(b) > 10 {
			t.Fatalf("Put(%d) has %d bytes", n, len(b))
		}
		var sum uint64
		for i := len(b) - 1; i >= 0; i-- {
			sum = sum*128 + uint64(b[i]%128)
			if last := i == len(b)-1; last == (b[i] >= 128) {
				t.Errorf("Put(%d) = %v: byte %d", n, b, i)
			}
		}
		if sum != n {
			t.Errorf("Put(%d) is %d", n, sum)
		}
		if len(b) > 1 && b[len(b)-1] == 0 {
			t.Errorf("Put(%d) = %v is not as short as can be", n, b)
		}
	}
}

// P1.2: what is read, and what is refused, in the order of the errors.
func TestGetTold(t *testing.T) {
	for _, c := range []struct {
		b    []byte
		n    uint64
		size int
		e    api.Errno
	}{
		{[]byte{0}, 0, 1, api.OK},
		{[]byte{127}, 127, 1, api.OK},
		{[]byte{128, 1}, 128, 2, api.OK},
		{[]byte{172, 2}, 300, 2, api.OK},
		{repeat(255, 8, 127), 1<<63 - 1, 9, api.OK},
		{repeat(128, 9, 1), 1 << 63, 10, api.OK},
		{repeat(255, 9, 1), math.MaxUint64, 10, api.OK},
		// what stands behind has no part, whatever it is
		{[]byte{0, 0}, 0, 1, api.OK},
		{[]byte{172, 2, 9}, 300, 2, api.OK},
		{[]byte{5, 128}, 5, 1, api.OK},
		{[]byte{255, 1}, 255, 2, api.OK},
		{append([]byte{7}, repeat(255, 12)...), 7, 1, api.OK},
		{repeat(0, 9, 200), 0, 1, api.OK},
		{repeat(255, 9, 1, 255, 255), math.MaxUint64, 10, api.OK},
		// ErrShort: it does not end, and has fewer than ten bytes
		{nil, 0, 0, api.ErrShort},
		{[]byte{}, 0, 0, api.ErrShort},
		{[]byte{128}, 0, 0, api.ErrShort},
		{[]byte{255, 255}, 0, 0, api.ErrShort},
		{repeat(128, 9), 0, 0, api.ErrShort},
		{repeat(255, 9), 0, 0, api.ErrShort},
		// ErrWide: it does not end within ten bytes, or the tenth one has too much
		{repeat(128, 10), 0, 0, api.ErrWide},
		{repeat(255, 10), 0, 0, api.ErrWide},
		{repeat(255, 11), 0, 0, api.ErrWide},
		{repeat(128, 10, 0), 0, 0, api.ErrWide},
		{repeat(255, 10, 1), 0, 0, api.ErrWide},
		{repeat(128, 9, 2), 0, 0, api.ErrWide},
		{repeat(255, 9, 2), 0, 0, api.ErrWide},
		{repeat(128, 9, 127), 0, 0, api.ErrWide},
		{repeat(128, 9, 128), 0, 0, api.ErrWide},
		{repeat(128, 9, 129), 0, 0, api.ErrWide},
		{repeat(128, 9, 2, 0), 0, 0, api.ErrWide},
		// ErrForm: it ends, but could be shorter
		{[]byte{128, 0}, 0, 0, api.ErrForm},
		{[]byte{129, 0}, 0, 0, api.ErrForm},
		{[]byte{255, 128, 0}, 0, 0, api.ErrForm},
		{[]byte{128, 0, 1}, 0, 0, api.ErrForm},
		{repeat(128, 8, 0), 0, 0, api.ErrForm},
		{repeat(128, 9, 0), 0, 0, api.ErrForm},
		{repeat(255, 9, 0), 0, 0, api.ErrForm},
		{repeat(255, 9, 0, 255), 0, 0, api.ErrForm},
	} {
		if n, size, e := vint.Get(c.b); n != c.n || size != c.size || e != c.e {
			t.Errorf("Get(%v) = %d, %d, %d, not %d, %d, %d", c.b, n, size, e, c.n, c.size, c.e)
		}
	}
}

// P1.2: of all short beginnings, Get takes just those that begin with a Put.
func TestGetAllShort(t *testing.T) {
	for i := range 1 << 16 {
		for _, b := range [][]byte{{byte(i)}, {byte(i >> 8), byte(i)}, {byte(i >> 8), byte(i), 3}, {129, byte(i >> 8), byte(i)}} {
			n, size, e := vint.Get(b)
			if e == api.OK {
				if size < 1 || size > len(b) || !bytes.Equal(vint.Put(n), b[:size]) {
					t.Fatalf("Get(%v) = %d, %d", b, n, size)
				}
				continue
			}
			end := slices.IndexFunc(b, func(c byte) bool { return c < 128 })
			want := api.ErrForm
			if end < 0 {
				want = api.ErrShort
			} else if end == 0 || b[end] != 0 {
				want = api.OK
			}
			if n != 0 || size != 0 || e != want {
				t.Fatalf("Get(%v) = %d, %d, %d, not %d", b, n, size, e, want)
			}
		}
	}
}

// P1.3: the lowest bits, the highest ones first; no bytes of another size.
func TestFixed(t *testing.T) {
	for _, c := range []struct {
		n    uint64
		size int
		want []byte
	}{
		{258, 2, []byte{1, 2}},
		{258, 1, []byte{2}},
		{258, 4, []byte{0, 0, 1, 2}},
		{0, 1, []byte{0}},
		{0, 8, make([]byte, 8)},
		{0x0102030405060708, 8, []byte{1, 2, 3, 4, 5, 6, 7, 8}},
		{0x0102030405060708, 7, []byte{2, 3, 4, 5, 6, 7, 8}},
		{0x0102030405060708, 3, []byte{6, 7, 8}},
		{math.MaxUint64, 8, repeat(255, 8)},
		{math.MaxUint64, 5, repeat(255, 5)},
		{1, 0, nil},
		{1, 9, nil},
		{1, 16, nil},
		{1, -1, nil},
		{1, -8, nil},
		{1, math.MaxInt, nil},
		{1, math.MinInt, nil},
	} {
		if got := vint.Fixed(c.n, c.size); !bytes.Equal(got, c.want) {
			t.Errorf("Fixed(%d, %d) = %v, not %v", c.n, c.size, got, c.want)
		}
	}
}

// P1.3: the number of bytes; 0 of none, and of more than eight.
func TestNumber(t *testing.T) {
	for _, c := range []struct {
		b    []byte
		want uint64
	}{
		{nil, 0},
		{[]byte{}, 0},
		{[]byte{0}, 0},
		{[]byte{7}, 7},
		{[]byte{255}, 255},
		{[]byte{1, 2}, 258},
		{[]byte{0, 0, 1, 2}, 258},
		{[]byte{1, 2, 3, 4, 5, 6, 7, 8}, 0x0102030405060708},
		{repeat(255, 8), math.MaxUint64},
		{[]byte{128, 0, 0, 0, 0, 0, 0, 0}, 1 << 63},
		{repeat(0, 8, 1), 0},
		{repeat(1, 9), 0},
		{repeat(255, 100), 0},
	} {
		if got := vint.Number(c.b); got != c.want {
			t.Errorf("Number(%v) = %d, not %d", c.b, got, c.want)
		}
	}
	for _, n := range edges() {
		for size := 1; size <= 8; size++ {
			want := n
			if size < 8 {
				want = n % (1 << (8 * size))
			}
			if got := vint.Number(vint.Fixed(n, size)); got != want {
				t.Errorf("Number(Fixed(%d, %d)) = %d", n, size, got)
			}
		}
	}
}

// P1.4: the length as Put has it, and the text.
func TestPutBytes(t *testing.T) {
	for _, size := range []int{0, 1, 2, 127, 128, 300, 16383, 16384, 70000} {
		p := bytes.Repeat([]byte{9}, size)
		want := append(vint.Put(uint64(size)), p...)
		if got := vint.PutBytes(p); !bytes.Equal(got, want) {
			t.Errorf("PutBytes of %d bytes is other", size)
		}
		if got, n, e := vint.GetBytes(want); !bytes.Equal(got, p) || n != len(want) || e != api.OK {
			t.Errorf("GetBytes of %d bytes: %d, %d, %d", size, len(got), n, e)
		}
		if got, n, e := vint.GetBytes(want[:len(want)-1]); len(got) != 0 || n != 0 || e != api.ErrShort {
			t.Errorf("GetBytes of %d bytes less one: %d, %d, %d", size, len(got), n, e)
		}
	}
	if b := vint.PutBytes(nil); !bytes.Equal(b, []byte{0}) {
		t.Error(b)
	}
}

// P1.4: what is read, and what is refused.
func TestGetBytesTold(t *testing.T) {
	for _, c := range []struct {
		b, want []byte
		size    int
		e       api.Errno
	}{
		{[]byte{0}, nil, 1, api.OK},
		{[]byte{0, 5}, nil, 1, api.OK},
		{[]byte{2, 7, 8}, []byte{7, 8}, 3, api.OK},
		{[]byte{2, 7, 8, 9}, []byte{7, 8}, 3, api.OK},
		{[]byte{1, 200, 200}, []byte{200}, 2, api.OK},
		{[]byte{1}, nil, 0, api.ErrShort},
		{[]byte{3, 7}, nil, 0, api.ErrShort},
		{[]byte{3, 7, 8}, nil, 0, api.ErrShort},
		{append(vint.Put(math.MaxUint64), 1, 2, 3), nil, 0, api.ErrShort},
		{append(vint.Put(1<<63), 1), nil, 0, api.ErrShort},
		{append(vint.Put(1<<63-1), 1), nil, 0, api.ErrShort},
		{append(vint.Put(1<<32), 1), nil, 0, api.ErrShort},
		{append(vint.Put(1<<32+1), 1), nil, 0, api.ErrShort},
		{nil, nil, 0, api.ErrShort},
		{[]byte{128}, nil, 0, api.ErrShort},
		{repeat(255, 9), nil, 0, api.ErrShort},
		{repeat(255, 10), nil, 0, api.ErrWide},
		{repeat(128, 9, 2), nil, 0, api.ErrWide},
		{[]byte{129, 0, 7}, nil, 0, api.ErrForm},
		{repeat(128, 9, 0), nil, 0, api.ErrForm},
	} {
		if got, size, e := vint.GetBytes(c.b); !bytes.Equal(got, c.want) || size != c.size || e != c.e {
			t.Errorf("GetBytes(%v) = %v, %d, %d, not %v, %d, %d", c.b, got, size, e, c.want, c.size, c.e)
		}
	}
}

// P1.1 to P1.4, with rule 3: what is handed in is not changed, its spare room neither, and what is answered shares nothing with it.
func TestSharesNothing(t *testing.T) {
	room := []byte{2, 7, 8, 9, 9, 9, 9, 9, 9, 9, 9, 9, 9, 9}
	was := bytes.Clone(room)
	b := room[:3]
	p, _, _ := vint.GetBytes(b)
	p[0] = 100
	_ = append(p, 101, 102, 103)
	q := vint.PutBytes(b)
	q[1] = 104
	_ = append(q, 105)
	vint.Get(b)
	vint.Number(b)
	if !bytes.Equal(room, was) {
		t.Errorf("%v was %v", room, was)
	}
	one, two := vint.Put(300), vint.Put(300)
	one[0] = 1
	three, four := vint.Fixed(258, 2), vint.Fixed(258, 2)
	three[0] = 9
	if !bytes.Equal(two, []byte{172, 2}) || !bytes.Equal(four, []byte{1, 2}) {
		t.Error(two, four)
	}
	// what is kept of an argument would change with it
	in := []byte{1, 50}
	out, _, _ := vint.GetBytes(in)
	put := vint.PutBytes(in)
	in[0], in[1] = 0, 0
	if !bytes.Equal(out, []byte{50}) || !bytes.Equal(put, []byte{2, 1, 50}) {
		t.Error(out, put)
	}
}

// P1.5: numbers, and texts, one behind the other come back, and nothing is left.
func TestThereAndBack(t *testing.T) {
	l := edges()
	var b []byte
	for i, n := range l {
		b = append(b, vint.Put(n)...)
		b = append(b, vint.PutBytes(repeat(byte(n), i*i%400))...)
	}
	for i, n := range l {
		got, size, e := vint.Get(b)
		if got != n || e != api.OK {
			t.Fatalf("number %d: %d, %d, not %d", i, got, e, n)
		}
		b = b[size:]
		p, size, e := vint.GetBytes(b)
		if !bytes.Equal(p, repeat(byte(n), i*i%400)) || e != api.OK {
			t.Fatalf("text %d: %v, %d", i, p, e)
		}
		b = b[size:]
	}
	if len(b) != 0 {
		t.Error("left:", b)
	}
}

// P1.6: no Put begins another one's, nor is the same; what is cut off is ErrShort.
func TestNoBeginnings(t *testing.T) {
	l := edges()
	for n := range uint64(400) {
		l = append(l, n)
	}
	slices.Sort(l)
	l = slices.Compact(l)
	puts := make([][]byte, len(l))
	for i, n := range l {
		puts[i] = vint.Put(n)
	}
	for i, p := range puts {
		for j, q := range puts {
			if i != j && bytes.HasPrefix(q, p) {
				t.Errorf("Put(%d) = %v begins Put(%d) = %v", l[i], p, l[j], q)
			}
		}
		for k := range p {
			if n, size, e := vint.Get(p[:k]); n != 0 || size != 0 || e != api.ErrShort {
				t.Errorf("Get(%v) = %d, %d, %d", p[:k], n, size, e)
			}
		}
	}
}
