package sha512

import (
	"bytes"
	library "crypto/sha512"
	"slices"
	"sync"
	"testing"

	"postmark/api"
	"postmark/primes"
)

// forget makes what is made once as it was at the start.
func forget() {
	once = sync.Once{}
	fixed = tables{}
}

// model is the hash as the library has it.
func model(bits int, b []byte) []byte {
	if bits == 384 {
		h := library.Sum384(b)
		return h[:]
	}
	h := library.Sum512(b)
	return h[:]
}

// askAll calls all that makes hashes, and says what was wrong.
func askAll(t *testing.T) {
	t.Helper()
	for _, bits := range []int{384, 512} {
		all := bytes.Repeat([]byte("abc"), 100)
		s, e := New(bits)
		if e != api.OK {
			t.Fatal(bits, e)
		}
		s.Write(all[:140])
		c := s.Copy()
		c.Write(all[140:])
		if c.Len() != 300 || !bytes.Equal(c.Sum(), model(bits, all)) || !bytes.Equal(s.Sum(), model(bits, all[:140])) {
			t.Error(bits, "in pieces")
		}
		if h, e := Of(bits, all); e != api.OK || !bytes.Equal(h, model(bits, all)) {
			t.Error(bits, h, e)
		}
	}
	if s, e := New(256); s != nil || e != api.ErrArg {
		t.Error(s, e)
	}
}

// TestWritten holds the written numbers against those that are worked out.
func TestWritten(t *testing.T) {
	var worked tables
	worked.fill()
	if worked != written() {
		t.Error(worked, written())
	}
}

// TestBeside makes hashes ahead of what is made once, which stays unmade, and behind its being spoiled.
func TestBeside(t *testing.T) {
	forget()
	defer forget()
	askAll(t)
	if fixed != (tables{}) {
		t.Error("a hash came to what is made once")
	}
	done := true
	once.Do(func() { done = false })
	if done {
		t.Error("a hash came to what is done once")
	}
	fixed.k[0], fixed.starts[0], fixed.starts[8] = 1, 2, 3
	askAll(t)
}

// roots are a hash's numbers by the chapter's words.
func roots(t *testing.T, bits int) []uint64 {
	t.Helper()
	squares, e := primes.Table(16, 2, 64)
	if e != api.OK {
		t.Fatal(e)
	}
	cubes, e := primes.Table(80, 3, 64)
	if e != api.OK {
		t.Fatal(e)
	}
	if bits == 384 {
		return slices.Concat(squares[8:], cubes)
	}
	return slices.Concat(squares[:8], cubes)
}

func TestNumbers(t *testing.T) {
	forget()
	for _, bits := range []int{384, 512, 384} {
		l, e := Numbers(bits)
		if e != api.OK || !slices.Equal(l, roots(t, bits)) {
			t.Error(bits, l, e)
		}
		// What was answered is new memory.
		clear(l[:cap(l)])
		if again, e := Numbers(bits); e != api.OK || !slices.Equal(again, roots(t, bits)) {
			t.Error(bits, again, e)
		}
	}
	for _, bits := range []int{256, 224, 0, -512, 511} {
		if l, e := Numbers(bits); l != nil || e != api.ErrArg {
			t.Error(bits, l, e)
		}
	}
}

// TestNumbersAtOnce asks side by side: the numbers are made once, whoever comes first.
func TestNumbersAtOnce(t *testing.T) {
	forget()
	var all sync.WaitGroup
	wrong := make([]bool, 8)
	want := roots(t, 512)
	for i := range wrong {
		all.Go(func() {
			l, e := Numbers(512)
			wrong[i] = e != api.OK || !slices.Equal(l, want)
		})
	}
	all.Wait()
	if slices.Contains(wrong, true) {
		t.Error(wrong)
	}
}

// TestMadeOnce changes what was made: the numbers that are told are those, and nobody makes them anew.
func TestMadeOnce(t *testing.T) {
	forget()
	defer forget()
	want, _ := Numbers(512)
	fixed.starts[0]++
	fixed.k[0]++
	want[0]++
	want[8]++
	if l, e := Numbers(512); e != api.OK || !slices.Equal(l, want) {
		t.Error(l, e)
	}
}
