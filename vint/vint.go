// Package vint is layer 1: numbers, and texts of any length, as bytes. See shared/doc/01-vint.md.
package vint

import (
	"bytes"
	"iter"

	"scow/api"
)

const (
	groupBits = 7
	goesOn    = 128 // added to each byte of a number but its last one
	mostBytes = 10  // of a number: ten groups of seven bits hold 64
	mostFixed = 8
)

// Put is n in groups of seven bits, the lowest one first, as few as can be (P1.1).
func Put(n uint64) []byte {
	var b []byte
	for c := range groups(n) {
		b = append(b, c)
	}
	return b
}

// groups hands out n's groups as the bytes that they are.
func groups(n uint64) iter.Seq[byte] {
	return func(yield func(byte) bool) {
		rest := n
		for ; rest >= goesOn; rest >>= groupBits {
			if !yield(byte(rest) | goesOn) {
				return
			}
		}
		yield(byte(rest))
	}
}

// Get is the number with which b begins, how many bytes it has, or why there is none (P1.2).
func Get(b []byte) (uint64, int, api.Errno) {
	var n uint64
	size, last := 0, byte(goesOn) // no byte yet: the number has not ended
	for i, c := range leading(b) {
		n |= uint64(c%goesOn) << (groupBits * i)
		size, last = i+1, c
	}
	if e := refusal(size, last); e != api.OK {
		return 0, 0, e
	}
	return n, size, api.OK
}

// leading hands out the bytes that may be the number's with which b begins, with their places: up to the first one below 128, ten at most.
func leading(b []byte) iter.Seq2[int, byte] {
	return func(yield func(int, byte) bool) {
		for i, c := range b[:min(len(b), mostBytes)] {
			if !yield(i, c) || c < goesOn {
				return
			}
		}
	}
}

// refusal tells what is wrong with a number of so many leading bytes, the last of which is this one.
func refusal(size int, last byte) api.Errno {
	switch {
	case last >= goesOn && size < mostBytes:
		return api.ErrShort
	case size == mostBytes:
		// Nine groups are 63 bits: the tenth byte has one to give, and must end the number.
		if last > 1 {
			return api.ErrWide
		}
		fallthrough // ten bytes, too, may be more than are needed
	case size > 1:
		// A last group of no bits adds nothing: without it the number is shorter.
		if last == 0 {
			return api.ErrForm
		}
	}
	return api.OK
}

// Fixed is the lowest 8 * size bits of n, the highest ones first; none of a size that is not 1 to 8 (P1.3).
func Fixed(n uint64, size int) []byte {
	if size < 1 || size > mostFixed {
		return nil
	}
	b := make([]byte, size)
	for i := range b {
		b[size-1-i] = byte(n >> (8 * i))
	}
	return b
}

// Number is the number whose Fixed b is; 0, if b has not 1 to 8 bytes (P1.3).
func Number(b []byte) uint64 {
	if len(b) > mostFixed {
		return 0
	}
	var n uint64
	for _, c := range b {
		n = n<<8 | uint64(c)
	}
	return n
}

// PutBytes is p with its length ahead (P1.4).
func PutBytes(p []byte) []byte {
	return append(Put(uint64(len(p))), p...)
}

// GetBytes is the text with which b begins, how many bytes it has with its length, or why there is none (P1.4).
func GetBytes(b []byte) ([]byte, int, api.Errno) {
	n, size, e := Get(b)
	if e != api.OK {
		return nil, 0, e
	}
	// Held against each other as uint64: a length may be more than an int can be.
	if n > uint64(len(b)-size) {
		return nil, 0, api.ErrShort
	}
	end := size + int(n)
	return bytes.Clone(b[size:end]), end, api.OK
}
