// Package nums is layer 1: numbers as bytes. See doc/01-nums.md.
package nums

import (
	"iter"

	"almoner/api"
)

const (
	maxDigits   = 8     // bytes of a uint64
	bytesDigits = 4     // how many bytes there are, ahead of them
	sumsDigits  = 2     // how many sums there are, ahead of them
	maxSums     = 65535 // more than that sumsDigits can't tell
	sumSize     = 32    // bytes of an api.Sum
)

// Put: what stands in b, and n in so many bytes behind it, the highest first; below 0 it is in none, above 8 in eight. (P1.1)
func Put(b []byte, n uint64, bytes int) []byte {
	bytes = min(max(bytes, 0), maxDigits)
	return appendDigits(grown(b, bytes), n, bytes)
}

// Get: the number whose digits the first bytes of b are. (P1.1)
func Get(b []byte, bytes int) (uint64, api.Errno) {
	if bytes < 0 || bytes > maxDigits {
		return 0, api.ErrArg
	}
	if len(b) < bytes {
		return 0, api.ErrShort
	}
	var n uint64
	for _, d := range b[:bytes] {
		n = n<<8 | uint64(d)
	}
	return n, api.OK
}

// PutBytes: b, how many bytes l has, in four bytes, and l. (P1.2)
func PutBytes(b, l []byte) []byte {
	out := grown(b, bytesDigits+len(l))
	out = appendDigits(out, uint64(len(l)), bytesDigits)
	return append(out, l...)
}

// GetBytes: the bytes that PutBytes put, and how many of b they took, those that tell how many included. (P1.2)
func GetBytes(b []byte) (l []byte, took int, e api.Errno) {
	count, e := Get(b, bytesDigits)
	if e != api.OK {
		return nil, 0, e
	}
	rest := b[bytesDigits:]
	// Held against each other as uint64: four bytes may tell more than an int holds.
	if uint64(len(rest)) < count {
		return nil, 0, api.ErrShort
	}
	n := int(count)
	return grown(rest[:n], 0), bytesDigits + n, api.OK
}

// PutSums: b, how many sums there are, in two bytes, and the sums; of more than 65535 only the first ones. (P1.3)
func PutSums(b []byte, l []api.Sum) []byte {
	l = l[:min(len(l), maxSums)]
	out := grown(b, sumsDigits+sumSize*len(l))
	out = appendDigits(out, uint64(len(l)), sumsDigits)
	for _, s := range l {
		out = append(out, s[:]...)
	}
	return out
}

// GetSums: the sums that PutSums put, and how many bytes of b they took, those that tell how many included. (P1.3)
func GetSums(b []byte) (l []api.Sum, took int, e api.Errno) {
	count, e := Get(b, sumsDigits)
	if e != api.OK {
		return nil, 0, e
	}
	n := int(count)
	rest := b[sumsDigits:]
	if len(rest) < sumSize*n {
		return nil, 0, api.ErrShort
	}
	l = make([]api.Sum, n)
	for i := range l {
		copy(l[i][:], rest[sumSize*i:])
	}
	return l, sumsDigits + sumSize*n, api.OK
}

// digits goes through the digits of n to the base 256, the highest of so many first.
func digits(n uint64, bytes int) iter.Seq[byte] {
	return func(yield func(byte) bool) {
		for i := bytes - 1; i >= 0; i-- {
			if !yield(byte(n >> (8 * i))) {
				return
			}
		}
	}
}

// appendDigits writes into b's spare room: b is one that grown made.
func appendDigits(b []byte, n uint64, bytes int) []byte {
	for d := range digits(n, bytes) {
		b = append(b, d)
	}
	return b
}

// grown is b in memory of its own, with room for more behind it: an answer may share none with what was handed in, spare room neither.
func grown(b []byte, more int) []byte {
	out := make([]byte, len(b), len(b)+more)
	copy(out, b)
	return out
}
