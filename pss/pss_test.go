package pss_test

import (
	"bytes"
	"math"
	"math/rand"
	"testing"

	"postmark/api"
	"postmark/mask"
	"postmark/pss"
)

var hashes = []api.Hash{api.Sha224, api.Sha256, api.Sha384, api.Sha512}

func some(r *rand.Rand, size int) []byte {
	b := make([]byte, size)
	r.Read(b)
	return b
}

// model is an encoding, as RFC 8017 (9.1.1) has it.
func model(h api.Hash, digest, salt []byte, bits int) []byte {
	size := (bits + 7) / 8
	hash, _ := mask.Sum(h, make([]byte, 8), digest, salt)
	db := make([]byte, size-len(hash)-1-len(salt)-1)
	db = append(append(db, 1), salt...)
	m, _ := mask.Mask(h, hash, len(db))
	for i := range db {
		db[i] ^= m[i]
	}
	for bit := bits; bit < 8*size; bit++ {
		db[0] &^= 1 << (bit % 8)
	}
	return append(append(db, hash...), 0xbc)
}

func TestRoom(t *testing.T) {
	for _, x := range []struct {
		h          api.Hash
		salt, bits int
		want       bool
	}{
		{api.Sha256, 32, 528, true}, {api.Sha256, 32, 520, false}, {api.Sha256, 32, 521, true}, {api.Sha256, -1, 999, false}, {api.Sha256, 0, 999, true},
		{api.Sha224, 0, 233, true}, {api.Sha224, 0, 232, false}, {api.Sha512, 64, 1033, true}, {api.Sha512, 64, 1032, false}, {api.Sha384, 48, 777, true}, {api.Sha384, 49, 777, false},
		{0, 0, 999, false}, {5, 0, 999, false}, {-1, 0, 999, false}, {api.Sha256, math.MaxInt, 999, false}, {api.Sha256, math.MinInt, 999, false},
		{api.Sha256, 0, 8 * api.MaxOctets, true}, {api.Sha256, 0, 8*api.MaxOctets + 1, false}, {api.Sha256, 0, math.MaxInt, false}, {api.Sha256, 0, math.MinInt, false}, {api.Sha256, 0, -1, false}, {api.Sha256, 0, 0, false},
		{api.Sha256, api.MaxOctets - 34, 8 * api.MaxOctets, true}, {api.Sha256, api.MaxOctets - 33, 8 * api.MaxOctets, false},
	} {
		if pss.Room(x.h, x.salt, x.bits) != x.want {
			t.Error(x)
		}
	}
}

func TestAgainstModel(t *testing.T) {
	r := rand.New(rand.NewSource(1))
	for i := range 1000 {
		h := hashes[i%4]
		digest, salt := some(r, mask.Size(h)), some(r, r.Intn(50)*r.Intn(2))
		bits := 8*(mask.Size(h)+len(salt)+1) + 1 + r.Intn(40)
		b, e := pss.Encode(h, digest, salt, bits)
		if e != api.OK || !bytes.Equal(b, model(h, digest, salt, bits)) {
			t.Fatal(h, bits, b, e)
		}
		if s, e := pss.Salt(h, b, len(salt), bits); e != api.OK || !bytes.Equal(s, salt) {
			t.Fatal(h, bits, s, e)
		}
		if !pss.Verify(h, digest, b, len(salt), bits) {
			t.Fatal(h, bits)
		}
		broken := bytes.Clone(b)
		broken[r.Intn(len(b))] ^= 1 << r.Intn(8)
		if pss.Verify(h, digest, broken, len(salt), bits) {
			t.Fatal("a broken one is verified", h, bits, b, broken)
		}
		digest[r.Intn(len(digest))] ^= 1
		if pss.Verify(h, digest, b, len(salt), bits) {
			t.Fatal("another digest is verified", h, bits)
		}
		if s, e := pss.Salt(h, b, len(salt), bits); e != api.OK || !bytes.Equal(s, salt) {
			t.Fatal("a salt hangs on the digest", s, e)
		}
	}
}

func TestEncodeWrong(t *testing.T) {
	for i, x := range []struct {
		h            api.Hash
		digest, salt int
		bits         int
	}{{api.Sha256, 31, 32, 999}, {api.Sha256, 33, 32, 999}, {api.Sha256, 0, 32, 999}, {api.Sha256, 32, 32, 520}, {0, 0, 0, 999}, {5, 32, 0, 999}, {api.Sha256, 32, 0, 8*api.MaxOctets + 1}, {api.Sha256, 32, 0, math.MaxInt}, {api.Sha256, 32, 0, math.MinInt}} {
		if b, e := pss.Encode(x.h, make([]byte, x.digest), make([]byte, x.salt), x.bits); b != nil || e != api.ErrPss {
			t.Error(i, b, e)
		}
	}
	if b, e := pss.Encode(api.Sha512, make([]byte, 64), make([]byte, 9), 8*api.MaxOctets); e != api.OK || len(b) != api.MaxOctets || !pss.Verify(api.Sha512, make([]byte, 64), b, 9, 8*api.MaxOctets) {
		t.Error(len(b), e)
	}
}

// TestSaltWrong breaks each thing that is looked at, by itself.
func TestSaltWrong(t *testing.T) {
	r := rand.New(rand.NewSource(2))
	digest, salt := some(r, 32), some(r, 20)
	const bits = 8*60 + 3 // 61 bytes, the first one with three bits
	good := model(api.Sha256, digest, salt, bits)
	change := func(at int, x byte) []byte {
		b := bytes.Clone(good)
		b[at] ^= x
		return b
	}
	for i, x := range []struct {
		h          api.Hash
		b          []byte
		size, bits int
	}{
		{api.Sha256, good[:60], 20, bits}, {api.Sha256, good[1:], 20, bits}, {api.Sha256, append([]byte{0}, good...), 20, bits}, {api.Sha256, append(bytes.Clone(good), 0xbc), 20, bits}, {api.Sha256, nil, 20, bits},
		{api.Sha256, change(60, 1), 20, bits}, {api.Sha256, change(60, 0xbc), 20, bits},
		{api.Sha256, change(0, 0x80), 20, bits}, {api.Sha256, change(0, 0x08), 20, bits},
		{api.Sha256, change(0, 0x04), 20, bits}, {api.Sha256, change(1, 1), 20, bits}, {api.Sha256, change(6, 0x80), 20, bits}, // noughts
		{api.Sha256, change(7, 0x01), 20, bits}, {api.Sha256, change(7, 0x80), 20, bits}, {api.Sha256, change(7, 0x03), 20, bits}, // the 1
		{api.Sha256, good, 19, bits}, {api.Sha256, good, 21, bits}, {api.Sha256, good, 0, bits}, {api.Sha256, good, -1, bits}, {api.Sha256, good, 28, bits}, {api.Sha256, good, math.MaxInt, bits},
		{api.Sha224, good, 20, bits}, {0, good, 20, bits}, {5, good, 20, bits},
		{api.Sha256, good, 20, bits - 3}, {api.Sha256, good, 20, bits + 6}, {api.Sha256, good, 20, math.MaxInt}, {api.Sha256, good, 20, 0},
	} {
		if s, e := pss.Salt(x.h, x.b, x.size, x.bits); s != nil || e != api.ErrPss {
			t.Error(i, s, e)
		}
		if pss.Verify(x.h, digest, x.b, x.size, x.bits) {
			t.Error(i, "verified")
		}
	}
	for i, x := range [][]byte{digest[1:], append(bytes.Clone(digest), 0), nil} {
		if pss.Verify(api.Sha256, x, good, 20, bits) {
			t.Error(i, "a digest of another size is verified")
		}
	}
	// Another salt of the same size is read, and held against the inner hash by Verify alone.
	if s, e := pss.Salt(api.Sha256, change(8, 0x55), 20, bits); e != api.OK || s[0] != salt[0]^0x55 || !bytes.Equal(s[1:], salt[1:]) || pss.Verify(api.Sha256, digest, change(8, 0x55), 20, bits) {
		t.Error(s, e)
	}
}

// TestWhatFollows: of bytes, one by one turned everywhere, just the encoding itself is verified.
func TestWhatFollows(t *testing.T) {
	digest := make([]byte, 28)
	b, _ := pss.Encode(api.Sha224, digest, []byte{7}, 8*31+1)
	for at := range b {
		for x := range 255 {
			turned := bytes.Clone(b)
			turned[at] ^= byte(x + 1)
			if pss.Verify(api.Sha224, digest, turned, 1, 8*31+1) {
				t.Fatal(at, x)
			}
		}
	}
}

func TestMemory(t *testing.T) {
	digest, salt := bytes.Repeat([]byte{3}, 32), bytes.Repeat([]byte{5}, 32)
	b, _ := pss.Encode(api.Sha256, digest, salt, 600)
	kept := bytes.Clone(b)
	s, _ := pss.Salt(api.Sha256, b, 32, 600)
	clear(s[:cap(s)])
	if !bytes.Equal(b, kept) || !pss.Verify(api.Sha256, digest, b, 32, 600) {
		t.Error("a salt shares memory with its encoding")
	}
	clear(b[:cap(b)])
	if !bytes.Equal(digest, bytes.Repeat([]byte{3}, 32)) || !bytes.Equal(salt, bytes.Repeat([]byte{5}, 32)) {
		t.Error(digest, salt)
	}
}
