// Package octet is layer 1: bytes; see shared/doc/01-octet.md.
package octet

import (
	"bytes"
	"iter"

	"postmark/api"
)

const digits = "0123456789abcdef"

// Hex is bytes' text.
func Hex(b []byte) string {
	text := make([]byte, 0, 2*len(b))
	for _, x := range b {
		text = append(text, digits[x>>4], digits[x&15])
	}
	return string(text)
}

// worth is what a digit counts. Capital letters count nothing: bytes have one text alone.
func worth(r rune) (byte, bool) {
	switch {
	case r >= '0' && r <= '9':
		return byte(r - '0'), true
	case r >= 'a' && r <= 'f':
		return byte(r-'a') + 10, true
	}
	return 0, false
}

// worths tells of each rune of a text what it counts, and whether it is a digit.
func worths(s string) iter.Seq2[byte, bool] {
	return func(yield func(byte, bool) bool) {
		for _, r := range s {
			if !yield(worth(r)) {
				return
			}
		}
	}
}

// Unhex is a text's bytes.
func Unhex(s string) ([]byte, api.Errno) {
	if len(s)%2 != 0 {
		return nil, api.ErrOctet
	}
	b := make([]byte, len(s)/2)
	at, fine := 0, true
reading:
	for w, ok := range worths(s) {
		switch {
		case !ok:
			fine = false
			break reading
		case at%2 == 0:
			b[at/2] = w << 4
		default:
			b[at/2] |= w
		}
		at++
	}
	if !fine {
		return nil, api.ErrOctet
	}
	return b, api.OK
}

// sized says whether so many bytes may be made at once.
func sized(size int) bool { return size >= 0 && size <= api.MaxOctets }

// Big is a number's bytes.
func Big(n uint64, size int) ([]byte, api.Errno) {
	if !sized(size) {
		return nil, api.ErrArg
	}
	b := make([]byte, size)
	for i := size - 1; i >= 0; i-- {
		b[i] = byte(n)
		n >>= 8
	}
	if n != 0 {
		return nil, api.ErrOctet
	}
	return b, api.OK
}

// bare is the part of bytes behind the noughts ahead; it shares their memory.
func bare(b []byte) []byte {
	for i, x := range b {
		if x != 0 {
			return b[i:]
		}
	}
	return nil
}

// Whole is bytes' number.
func Whole(b []byte) (uint64, api.Errno) {
	b = bare(b)
	if len(b) > 8 {
		return 0, api.ErrOctet
	}
	var n uint64
	for _, x := range b {
		n = n<<8 | uint64(x)
	}
	return n, api.OK
}

// Trim is bytes without noughts ahead.
func Trim(b []byte) []byte { return bytes.Clone(bare(b)) }

// Pad is bytes with noughts ahead.
func Pad(b []byte, size int) ([]byte, api.Errno) {
	if !sized(size) {
		return nil, api.ErrArg
	}
	b = bare(b)
	if len(b) > size {
		return nil, api.ErrOctet
	}
	return Join(make([]byte, size-len(b)), b), api.OK
}

// Xor is bytes laid over others.
func Xor(a, b []byte) ([]byte, api.Errno) {
	if len(a) != len(b) {
		return nil, api.ErrArg
	}
	l := make([]byte, len(a))
	for i := range l {
		l[i] = a[i] ^ b[i]
	}
	return l, api.OK
}

// Cmp is bytes' order.
func Cmp(a, b []byte) int { return bytes.Compare(a, b) }

// Join is bytes, one behind the other.
func Join(l ...[]byte) []byte {
	size := 0
	for _, b := range l {
		size += len(b)
	}
	all := make([]byte, 0, size)
	for _, b := range l {
		all = append(all, b...)
	}
	return all
}

// Cut is bytes in pieces.
func Cut(b []byte, sizes ...int) ([][]byte, api.Errno) {
	left := len(b)
	for _, size := range sizes {
		// What is left is held against each size, as sizes added up might pass the greatest number.
		if size < 0 || size > left {
			return nil, api.ErrArg
		}
		left -= size
	}
	if left != 0 {
		return nil, api.ErrArg
	}
	pieces := make([][]byte, 0, len(sizes))
	for _, size := range sizes {
		pieces = append(pieces, bytes.Clone(b[:size]))
		b = b[size:]
	}
	return pieces, api.OK
}
