package sha256_test

import (
	"bytes"
	library "crypto/sha256"
	"encoding/hex"
	"math/rand"
	"sync"
	"testing"

	"postmark/api"
	"postmark/sha256"
)

// model is the hash as the library has it.
func model(bits int, b []byte) []byte {
	if bits == 224 {
		h := library.Sum224(b)
		return h[:]
	}
	h := library.Sum256(b)
	return h[:]
}

func bytesOf(r *rand.Rand, size int) []byte {
	b := make([]byte, size)
	r.Read(b)
	return b
}

func TestExamples(t *testing.T) {
	for _, x := range []struct {
		bits      int
		text, hex string
	}{
		{256, "abc", "ba7816bf8f01cfea414140de5dae2223b00361a396177a9cb410ff61f20015ad"},
		{224, "abc", "23097d223405d8228642a477bda255b32aadbce4bda0b3f7e36c9da7"},
		{256, "", "e3b0c44298fc1c149afbf4c8996fb92427ae41e4649b934ca495991b7852b855"},
		{224, "", "d14a028c2a3a2bc9476102bb288234c415a2b01f828ea62ac5b3e42f"},
		{256, "abcdbcdecdefdefgefghfghighijhijkijkljklmklmnlmnomnopnopq", "248d6a61d20638b8e5c026930c3e6039a33ce45964ff2167f6ecedd419db06c1"},
	} {
		b, e := sha256.Of(x.bits, []byte(x.text))
		if e != api.OK || hex.EncodeToString(b) != x.hex {
			t.Errorf("%d %q: %x %v", x.bits, x.text, b, e)
		}
	}
}

func TestWrongBits(t *testing.T) {
	for _, bits := range []int{512, 384, 0, -256, 255, 257, 225, 1} {
		if s, e := sha256.New(bits); s != nil || e != api.ErrArg {
			t.Error(bits, s, e)
		}
		if b, e := sha256.Of(bits, []byte("abc")); b != nil || e != api.ErrArg {
			t.Error(bits, b, e)
		}
	}
}

// TestLengths goes over all lengths around two blocks' edges.
func TestLengths(t *testing.T) {
	all := bytesOf(rand.New(rand.NewSource(1)), 400)
	for _, bits := range []int{224, 256} {
		for size := range all {
			if b, e := sha256.Of(bits, all[:size]); e != api.OK || !bytes.Equal(b, model(bits, all[:size])) {
				t.Fatal(bits, size, b, e)
			}
		}
	}
	long := make([]byte, 1<<17+5)
	if b, _ := sha256.Of(256, long); !bytes.Equal(b, model(256, long)) {
		t.Error("a long one")
	}
}

// TestPieces hands bytes in in pieces, asks between, and goes on with a copy beside.
func TestPieces(t *testing.T) {
	r := rand.New(rand.NewSource(2))
	for range 300 {
		bits := 224 + 32*r.Intn(2)
		s, e := sha256.New(bits)
		if e != api.OK {
			t.Fatal(e)
		}
		var all []byte
		for range r.Intn(9) {
			piece := bytesOf(r, r.Intn(150)*r.Intn(2))
			s.Write(piece)
			all = append(all, piece...)
			clear(piece)
			if r.Intn(2) == 0 && !bytes.Equal(s.Sum(), model(bits, all)) {
				t.Fatal(bits, len(all))
			}
			if s.Len() != uint64(len(all)) {
				t.Fatal(s.Len(), len(all))
			}
			c := s.Copy()
			c.Write([]byte("beside"))
			if !bytes.Equal(c.Sum(), model(bits, append(bytes.Clone(all), "beside"...))) || c.Len() != uint64(len(all)+6) {
				t.Fatal("a copy")
			}
			if r.Intn(3) == 0 {
				before := s.Copy()
				s.Write([]byte("ahead"))
				if !bytes.Equal(before.Sum(), model(bits, all)) {
					t.Fatal("a copy hangs on what it is of")
				}
				s = before
			}
		}
		if !bytes.Equal(s.Sum(), model(bits, all)) || !bytes.Equal(s.Sum(), model(bits, all)) {
			t.Fatal(bits, len(all))
		}
	}
}

// TestNone calls what nobody made.
func TestNone(t *testing.T) {
	var none *sha256.State
	for i, s := range []*sha256.State{none, {}} {
		s.Write([]byte("abc"))
		if s.Len() != 0 || s.Sum() != nil || s.Copy() != nil {
			t.Error(i)
		}
	}
}

func TestMemory(t *testing.T) {
	s, _ := sha256.New(224)
	given := []byte("given bytes")
	s.Write(given)
	if string(given) != "given bytes" {
		t.Error(given)
	}
	want := model(224, given)
	first := s.Sum()
	clear(first[:cap(first)])
	clear(given)
	if !bytes.Equal(s.Sum(), want) {
		t.Error("what was answered, or handed in, is kept")
	}
}

// TestAtOnce makes hashes side by side.
func TestAtOnce(t *testing.T) {
	var all sync.WaitGroup
	wrong := make([]bool, 8)
	for i := range wrong {
		all.Go(func() {
			b, e := sha256.Of(256, []byte{byte(i)})
			wrong[i] = e != api.OK || !bytes.Equal(b, model(256, []byte{byte(i)}))
		})
	}
	all.Wait()
	for i, bad := range wrong {
		if bad {
			t.Error(i)
		}
	}
}
