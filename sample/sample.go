// Package sample has what the tests of several layers ask with: keys whose powers undo one another. Their primes are Mersenne's, which anybody knows: they are for tests alone.
package sample

import (
	"postmark/api"
	"postmark/octet"
)

const (
	power = "010001"

	smallModulus = "3ffffffffffffffdffffffffffffffffffffffffffffffffffffffffffffffffffffffffffffffffffffffffffffffffffffffffffffffffffffffffffffffffffe000000000000001"
	smallPrivate = "087ff780087ff77f80807f7f80807f7f80807f7f80807f7f80807f7f80807f7f80807f7f80807f7f80807f7f80807f7f80807f7f80807f7f80807f7f80807f7f8077ff880077ff8801"

	largeModulus = "ffffffffffffffffffffffffffffffffffffffffffffffffffffffffffffffffffffffffffffffffffffffffffffffffffffffffffffffffffffffffffffffffff7ffffffffffffffffffffe0000000000000000000000000000000000000000000000000000000000000000000000000000000000000000000000000000000000000000000000000000000001"
	largePrivate = "2a7fd5802a7fd5802a7fd5802a7fd5802a7fd5802a7fd5802a7fd5802a7fd5802a7fd5802a7fd5802a7fd5802a7fd5802a7fd5802a7fd5802a7fd5802a7fd5802a5555aaaa5555aaaa5555aa0055ffaa0055ffaa0055ffaa0055ffaa0055ffaa0055ffaa0055ffaa0055ffaa0055ffaa0055ffaa0055ffaa0055ffaa0055ffaa0055ffaa0055ffaa0055ffaa01"
)

// Bytes are those of a text of digits.
func Bytes(text string) []byte {
	b, _ := octet.Unhex(text)
	return b
}

// Small is a key of 582 bits: of the longer hashes there is no room in it.
func Small() api.Key {
	return api.Key{N: Bytes(smallModulus), E: Bytes(power), D: Bytes(smallPrivate)}
}

// Large is a key of 1128 bits: there is room for all hashes, signed in both ways.
func Large() api.Key {
	return api.Key{N: Bytes(largeModulus), E: Bytes(power), D: Bytes(largePrivate)}
}
