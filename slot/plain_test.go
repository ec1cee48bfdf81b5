package slot_test

import (
	"slices"
	"strings"

	"scow/api"
)

// plain is a body as the chapter's words have it: the cells, in order, where each one lies, and the top.
type plain struct {
	cells []plainCell
	top   int
}

type plainCell struct {
	at   int
	text string
}

func newPlain() *plain { return &plain{top: 243} }

func (p *plain) Len() int { return len(p.cells) }

func (p *plain) Free() int {
	n := 243 - 2 - 2*len(p.cells)
	for _, c := range p.cells {
		n -= len(c.text)
	}
	return n
}

// Holes goes byte by byte: each is in a hole if no cell has it.
func (p *plain) Holes() int {
	n := 0
	for at := p.top; at < 243; at++ {
		if !slices.ContainsFunc(p.cells, func(c plainCell) bool { return at >= c.at && at < c.at+len(c.text) }) {
			n++
		}
	}
	return n
}

func (p *plain) Cell(i int) []byte {
	if i < 0 || i >= len(p.cells) {
		return nil
	}
	return []byte(p.cells[i].text)
}

func (p *plain) Insert(i int, c []byte) api.Errno {
	if i < 0 || i > len(p.cells) {
		return 7
	}
	if len(c) > 78 {
		return 1
	}
	if 2+len(c) > p.Free() {
		return 60
	}
	if behind := 2 + 2*(len(p.cells)+1); p.top-behind < len(c) {
		p.Pack()
	}
	p.top -= len(c)
	p.cells = slices.Insert(p.cells, i, plainCell{p.top, string(c)})
	return 0
}

func (p *plain) Delete(i int) api.Errno {
	if i < 0 || i >= len(p.cells) {
		return 7
	}
	if c := p.cells[i]; len(c.text) > 0 && c.at == p.top {
		p.top = c.at + len(c.text)
	}
	p.cells = slices.Delete(p.cells, i, i+1)
	return 0
}

func (p *plain) Pack() {
	p.top = 243
	for i := range p.cells {
		p.top -= len(p.cells[i].text)
		p.cells[i].at = p.top
	}
}

func (p *plain) Bytes() []byte {
	b := make([]byte, 243)
	b[0], b[1] = byte(len(p.cells)), byte(p.top)
	for i, c := range p.cells {
		b[2+2*i], b[3+2*i] = byte(c.at), byte(len(c.text))
		if c.text == "" {
			b[2+2*i] = byte(p.top)
		}
		copy(b[c.at:], c.text)
	}
	return b
}

// plainOf is the body that bytes are, which are told to be one.
func plainOf(b []byte) *plain {
	p := &plain{top: int(b[1])}
	for i := range int(b[0]) {
		at, size := int(b[2+2*i]), int(b[3+2*i])
		p.cells = append(p.cells, plainCell{at, string(b[at : at+size])})
	}
	return p
}

// isBody tells whether bytes are a body of cells, by holding each two cells against each other.
func isBody(b []byte) bool {
	if len(b) != 243 {
		return false
	}
	n, top := int(b[0]), int(b[1])
	if 2+2*n > top || top > 243 {
		return false
	}
	for i := range n {
		at, size := int(b[2+2*i]), int(b[3+2*i])
		if at < top || at+size > 243 || size > 78 {
			return false
		}
		for j := range i {
			from, to := int(b[2+2*j]), int(b[2+2*j])+int(b[3+2*j])
			if size > 0 && from < to && at < to && from < at+size {
				return false
			}
		}
	}
	return true
}

// one is a letter that many times over.
func one(letter byte, size int) []byte {
	return []byte(strings.Repeat(string(rune(letter)), size))
}
