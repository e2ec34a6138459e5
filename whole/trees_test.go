package whole_test

import (
	"bytes"
	"math/rand"
	"testing"

	"postmark/api"
	"postmark/ber"
	"postmark/der"
	"postmark/sample"
	"postmark/strict"
	"postmark/tree"
)

// TestTrees is P0.4: trees are read from their DER as they were, and made that from whatever BER; strictly read are just the bytes that are what their tree is written as.
func TestTrees(t *testing.T) {
	r := rand.New(rand.NewSource(4))
	read, turnedRead, refused := 0, 0, 0
	for range 3000 {
		x := sample.Tree(r.Intn, 6)
		s, e := der.Sorted(x)
		if e != api.OK {
			t.Fatal(x, e)
		}
		form, e := der.Encode(s)
		if back, f := strict.Read(form); e != api.OK || f != api.OK || !tree.Same(back, s) {
			t.Fatal(x, back, e, f)
		}
		way := make([]byte, r.Intn(40))
		r.Read(way)
		b, e := ber.Write(x, way)
		normal, f := ber.Normal(b)
		if e != api.OK || f != api.OK || !bytes.Equal(normal, form) {
			t.Fatalf("%v %v: %x %x %v %v", x, way, b, normal, e, f)
		}
		for range 5 {
			turned := bytes.Clone(b)
			turned[r.Intn(len(b))] = byte(r.Intn(256))
			back, e := strict.Read(turned)
			again, f := der.Encode(back)
			normal, g := ber.Normal(turned)
			// Of BER, what is DER is read strictly, and nothing else is.
			if (e == api.OK) != (g == api.OK && bytes.Equal(normal, turned)) || e == api.OK && (f != api.OK || !bytes.Equal(again, turned)) {
				t.Fatalf("%x: %x %x %v %v %v", turned, again, normal, e, f, g)
			}
			switch {
			case e == api.OK:
				read++
			case g == api.OK:
				turnedRead++
			default:
				refused++
			}
		}
	}
	if read < 500 || turnedRead < 500 || refused < 500 {
		t.Error("few of a kind", read, turnedRead, refused)
	}
}
