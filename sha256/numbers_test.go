package sha256

import (
	"bytes"
	library "crypto/sha256"
	"slices"
	"sync"
	"testing"

	"postmark/api"
	"postmark/primes"
)

// forget makes what is made once as it was at the start.
func forget() {
	once = sync.Once{}
	fixed = tables{}
}

// model is the hash as the library has it.
func model(bits int, b []byte) []byte {
	if bits == 224 {
		h := library.Sum224(b)
		return h[:]
	}
	h := library.Sum256(b)
	return h[:]
}

// askAll calls all that makes hashes, and says what was wrong.
func askAll(t *testing.T) {
	t.Helper()
	for _, bits := range []int{224, 256} {
		all := bytes.Repeat([]byte("abc"), 100)
		s, e := New(bits)
		if e != api.OK {
			t.Fatal(bits, e)
		}
		s.Write(all[:70])
		c := s.Copy()
		c.Write(all[70:])
		if c.Len() != 300 || !bytes.Equal(c.Sum(), model(bits, all)) || !bytes.Equal(s.Sum(), model(bits, all[:70])) {
			t.Error(bits, "in pieces")
		}
		if h, e := Of(bits, all); e != api.OK || !bytes.Equal(h, model(bits, all)) {
			t.Error(bits, h, e)
		}
	}
	if s, e := New(512); s != nil || e != api.ErrArg {
		t.Error(s, e)
	}
}

// TestWritten holds the written numbers against those that are worked out.
func TestWritten(t *testing.T) {
	var worked tables
	worked.fill()
	if worked != written() {
		t.Error(worked, written())
	}
}

// TestBeside makes hashes ahead of what is made once, which stays unmade, and behind its being spoiled.
func TestBeside(t *testing.T) {
	forget()
	defer forget()
	askAll(t)
	if fixed != (tables{}) {
		t.Error("a hash came to what is made once")
	}
	done := true
	once.Do(func() { done = false })
	if done {
		t.Error("a hash came to what is done once")
	}
	fixed.k[0], fixed.starts[0], fixed.starts[8] = 1, 2, 3
	askAll(t)
}

// roots are a hash's numbers by the chapter's words.
func roots(t *testing.T, bits int) []uint32 {
	t.Helper()
	first, _ := primes.First(16)
	var l []uint32
	for _, p := range first[:8] {
		f, _ := primes.Fraction(uint64(p), 2, 32)
		l = append(l, uint32(f))
	}
	if bits == 224 {
		l = nil
		for _, p := range first[8:] {
			f, _ := primes.Fraction(uint64(p), 2, 64)
			l = append(l, uint32(f))
		}
	}
	k, e := primes.Table(64, 3, 32)
	if e != api.OK {
		t.Fatal(e)
	}
	for _, f := range k {
		l = append(l, uint32(f))
	}
	return l
}

func TestNumbers(t *testing.T) {
	forget()
	for _, bits := range []int{224, 256, 224} {
		l, e := Numbers(bits)
		if e != api.OK || !slices.Equal(l, roots(t, bits)) {
			t.Error(bits, l, e)
		}
		// What was answered is new memory.
		clear(l[:cap(l)])
		if again, e := Numbers(bits); e != api.OK || !slices.Equal(again, roots(t, bits)) {
			t.Error(bits, again, e)
		}
	}
	for _, bits := range []int{512, 384, 0, -256, 255} {
		if l, e := Numbers(bits); l != nil || e != api.ErrArg {
			t.Error(bits, l, e)
		}
	}
}

// TestNumbersAtOnce asks side by side: the numbers are made once, whoever comes first.
func TestNumbersAtOnce(t *testing.T) {
	forget()
	var all sync.WaitGroup
	wrong := make([]bool, 8)
	want := roots(t, 256)
	for i := range wrong {
		all.Go(func() {
			l, e := Numbers(256)
			wrong[i] = e != api.OK || !slices.Equal(l, want)
		})
	}
	all.Wait()
	if slices.Contains(wrong, true) {
		t.Error(wrong)
	}
}

// TestMadeOnce changes what was made: the numbers that are told are those, and nobody makes them anew.
func TestMadeOnce(t *testing.T) {
	forget()
	defer forget()
	want, _ := Numbers(256)
	fixed.starts[0]++
	fixed.k[0]++
	want[0]++
	want[8]++
	if l, e := Numbers(256); e != api.OK || !slices.Equal(l, want) {
		t.Error(l, e)
	}
}
