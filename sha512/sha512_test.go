package sha512_test

import (
	"bytes"
	library "crypto/sha512"
	"encoding/hex"
	"math/rand"
	"sync"
	"testing"

	"postmark/api"
	"postmark/sha512"
)

// model is the hash as the library has it.
func model(bits int, b []byte) []byte {
	if bits == 384 {
		h := library.Sum384(b)
		return h[:]
	}
	h := library.Sum512(b)
	return h[:]
}

func bytesOf(r *rand.Rand, size int) []byte {
	b := make([]byte, size)
	r.Read(b)
	return b
}

func TestExamples(t *testing.T) {
	for _, x := range []struct {
		bits      int
		text, hex string
	}{
		{512, "abc", "ddaf35a193617abacc417349ae20413112e6fa4e89a97ea20a9eeee64b55d39a2192992a274fc1a836ba3c23a3feebbd454d4423643ce80e2a9ac94fa54ca49f"},
		{384, "abc", "cb00753f45a35e8bb5a03d699ac65007272c32ab0eded1631a8b605a43ff5bed8086072ba1e7cc2358baeca134c825a7"},
		{384, "", "38b060a751ac96384cd9327eb1b1e36a21fdb71114be07434c0cc7bf63f6e1da274edebfe76f65fbd51ad2f14898b95b"},
		{512, "", "cf83e1357eefb8bdf1542850d66d8007d620e4050b5715dc83f4a921d36ce9ce47d0d13c5d85f2b0ff8318d2877eec2f63b931bd47417a81a538327af927da3e"},
	} {
		b, e := sha512.Of(x.bits, []byte(x.text))
		if e != api.OK || hex.EncodeToString(b) != x.hex {
			t.Errorf("%d %q: %x %v", x.bits, x.text, b, e)
		}
	}
}

func TestWrongBits(t *testing.T) {
	for _, bits := range []int{256, 224, 0, -512, 511, 513, 385, 1} {
		if s, e := sha512.New(bits); s != nil || e != api.ErrArg {
			t.Error(bits, s, e)
		}
		if b, e := sha512.Of(bits, []byte("abc")); b != nil || e != api.ErrArg {
			t.Error(bits, b, e)
		}
	}
}

// TestLengths goes over all lengths around two blocks' edges.
func TestLengths(t *testing.T) {
	all := bytesOf(rand.New(rand.NewSource(1)), 600)
	for _, bits := range []int{384, 512} {
		for size := range all {
			if b, e := sha512.Of(bits, all[:size]); e != api.OK || !bytes.Equal(b, model(bits, all[:size])) {
				t.Fatal(bits, size, b, e)
			}
		}
	}
	long := make([]byte, 1<<17+5)
	if b, _ := sha512.Of(512, long); !bytes.Equal(b, model(512, long)) {
		t.Error("a long one")
	}
}

// TestPieces hands bytes in in pieces, asks between, and goes on with a copy beside.
func TestPieces(t *testing.T) {
	r := rand.New(rand.NewSource(2))
	for range 300 {
		bits := 384 + 128*r.Intn(2)
		s, e := sha512.New(bits)
		if e != api.OK {
			t.Fatal(e)
		}
		var all []byte
		for range r.Intn(9) {
			piece := bytesOf(r, r.Intn(300)*r.Intn(2))
			s.Write(piece)
			all = append(all, piece...)
			clear(piece)
			if r.Intn(2) == 0 && !bytes.Equal(s.Sum(), model(bits, all)) {
				t.Fatal(bits, len(all))
			}
			if s.Len() != uint64(len(all)) {
				t.Fatal(s.Len(), len(all))
			}
			c := s.Copy()
			c.Write([]byte("beside"))
			if !bytes.Equal(c.Sum(), model(bits, append(bytes.Clone(all), "beside"...))) || c.Len() != uint64(len(all)+6) {
				t.Fatal("a copy")
			}
			if r.Intn(3) == 0 {
				before := s.Copy()
				s.Write([]byte("ahead"))
				if !bytes.Equal(before.Sum(), model(bits, all)) {
					t.Fatal("a copy hangs on what it is of")
				}
				s = before
			}
		}
		if !bytes.Equal(s.Sum(), model(bits, all)) || !bytes.Equal(s.Sum(), model(bits, all)) {
			t.Fatal(bits, len(all))
		}
	}
}

// TestNone calls what nobody made.
func TestNone(t *testing.T) {
	var none *sha512.State
	for i, s := range []*sha512.State{none, {}} {
		s.Write([]byte("abc"))
		if s.Len() != 0 || s.Sum() != nil || s.Copy() != nil {
			t.Error(i)
		}
	}
}

func TestMemory(t *testing.T) {
	s, _ := sha512.New(384)
	given := []byte("given bytes")
	s.Write(given)
	if string(given) != "given bytes" {
		t.Error(given)
	}
	want := model(384, given)
	first := s.Sum()
	clear(first[:cap(first)])
	clear(given)
	if !bytes.Equal(s.Sum(), want) {
		t.Error("what was answered, or handed in, is kept")
	}
}

// TestAtOnce makes hashes side by side.
func TestAtOnce(t *testing.T) {
	var all sync.WaitGroup
	wrong := make([]bool, 8)
	for i := range wrong {
		all.Go(func() {
			b, e := sha512.Of(512, []byte{byte(i)})
			wrong[i] = e != api.OK || !bytes.Equal(b, model(512, []byte{byte(i)}))
		})
	}
	all.Wait()
	for i, bad := range wrong {
		if bad {
			t.Error(i)
		}
	}
}
