package counter_test

import (
	"bytes"
	"math/rand"
	"testing"

	"postmark/api"
	"postmark/counter"
	"postmark/der"
	"postmark/mask"
	"postmark/oid"
	"postmark/sample"
	"postmark/signer"
	"postmark/tree"
)

func seq(kids ...api.Node) api.Node { return tree.Cons(api.Universal, api.TagSeq, kids...) }

func set(kids ...api.Node) api.Node { return tree.Cons(api.Universal, api.TagSet, kids...) }

func prim(tag int, b ...byte) api.Node { return tree.Prim(api.Universal, tag, b) }

// counters is the attribute of countersignatures, with these values.
func counters(values ...api.Node) api.Node {
	return seq(prim(api.TagOid, oid.Named("countersignature")...), set(values...))
}

// plain is a countersigner that may be, of a number.
func plain(n byte) api.Signer {
	return api.Signer{Issuer: sample.Name("c"), Serial: []byte{1 + n&63}, Hash: api.Sha256, Way: api.Pkcs, Attrs: api.Attrs{Digest: []byte{n}, Time: api.NoTime}}
}

func built(t *testing.T, s api.Signer) api.Node {
	t.Helper()
	x, e := signer.Build(s)
	if e != api.OK {
		t.Fatal(e)
	}
	return x
}

// are says whether a signer's countersignatures are just these, in any order.
func are(t *testing.T, s api.Signer, want ...api.Signer) {
	t.Helper()
	l, e := counter.List(s)
	if e != api.OK || len(l) != len(want) {
		t.Error(len(l), e)
		return
	}
	var ahead []byte
	for _, c := range l {
		b, _ := der.Encode(built(t, c))
		if bytes.Compare(ahead, b) >= 0 {
			t.Error("out of order")
		}
		ahead = b
		found := 0
		for _, w := range want {
			if signer.Same(c, w) {
				found++
			}
		}
		if found != 1 {
			t.Error("another one", c)
		}
	}
}

func TestList(t *testing.T) {
	are(t, sample.Signer())
	s := sample.Signer()
	s.Unsigned = []api.Node{counters(built(t, plain(1)))}
	are(t, s, plain(1))
	s.Unsigned = []api.Node{sample.Other(7), counters(built(t, plain(1)), built(t, plain(2)))}
	are(t, s, plain(1), plain(2))
	for i, x := range []struct {
		l []api.Node
		e api.Errno
	}{{[]api.Node{counters(tree.Int(1))}, api.ErrCounter}, {[]api.Node{counters(tree.Int(1), built(t, plain(1)))}, api.ErrCounter}, {[]api.Node{counters(built(t, plain(1)), seq(tree.Int(1), built(t, plain(1))))}, api.ErrCounter}, {[]api.Node{counters()}, api.ErrSigner}, {[]api.Node{counters(tree.Int(1)), tree.Int(1)}, api.ErrSigner}, {[]api.Node{seq(prim(6, 0x2a, 1), set(tree.Prim(0, 4, make([]byte, 65400))))}, api.ErrLong}, {[]api.Node{seq(prim(6, oid.Named("data")...), set(tree.Int(1)))}, api.OK}} {
		s.Unsigned = x.l
		if l, e := counter.List(s); l != nil || e != x.e {
			t.Error(i, l, e)
		}
		got, e := counter.Add(s, plain(1))
		if e != x.e || e != api.OK && !signer.Same(got, api.Signer{}) {
			t.Error(i, e)
		}
		if got, e := counter.Sign(s, plain(1), sample.Small(), nil); e != x.e || e != api.OK && !signer.Same(got, api.Signer{}) {
			t.Error(i, e)
		}
	}
}

func TestTied(t *testing.T) {
	s := sample.Signer()
	for h := api.Sha224; h <= api.Sha512; h++ {
		c := plain(1)
		c.Hash = h
		c.Attrs.Digest, _ = mask.Sum(h, s.Sig)
		if !counter.Tied(s, c) {
			t.Error(h)
		}
		for i, turn := range []func(s, c *api.Signer){func(s, c *api.Signer) { s.Sig = []byte{1} }, func(s, c *api.Signer) { s.Sig = nil }, func(s, c *api.Signer) { c.Attrs.Type = []byte{0x2a} }, func(s, c *api.Signer) { c.Attrs.Digest = c.Attrs.Digest[1:] }, func(s, c *api.Signer) { c.Hash = h%4 + 1 }, func(s, c *api.Signer) { c.Hash = 0 }} {
			a, b := s, c
			turn(&a, &b)
			if counter.Tied(a, b) {
				t.Error(h, i)
			}
		}
	}
	none := plain(1)
	none.Hash, none.Attrs.Digest = 0, nil
	if counter.Tied(s, none) {
		t.Error("tied by no hash")
	}
}

// TestAdd adds in every order: all are there, the others are as they were, and what comes out is the same.
func TestAdd(t *testing.T) {
	r := rand.New(rand.NewSource(1))
	for range 60 {
		s := sample.Signer()
		s.Unsigned = nil
		for n := byte(0); n < 6; n++ {
			if r.Intn(2) == 0 {
				s.Unsigned = append(s.Unsigned, sample.Other(n))
			}
		}
		before := len(s.Unsigned)
		var want []api.Signer
		first, second := s, s
		for n := range 1 + r.Intn(4) {
			c := plain(byte(n*7 + r.Intn(7)))
			if r.Intn(2) == 0 {
				c.Sig = make([]byte, r.Intn(200))
			}
			want = append(want, c)
		}
		for i := range want {
			var e, f api.Errno
			first, e = counter.Add(first, want[i])
			second, f = counter.Add(second, want[len(want)-1-i])
			if e != api.OK || f != api.OK {
				t.Fatal(e, f)
			}
		}
		are(t, first, want...)
		if !signer.Same(first, second) || len(first.Unsigned) != before+1 {
			t.Fatal("hangs on the order")
		}
		bare := first
		bare.Unsigned = nil
		for _, x := range first.Unsigned {
			if !tree.Same(x.Kids[0], prim(api.TagOid, oid.Named("countersignature")...)) {
				bare.Unsigned = append(bare.Unsigned, x)
			}
		}
		if !signer.Same(bare, s) {
			t.Fatal("the others are turned")
		}
		if _, e := signer.Build(first); e != api.OK {
			t.Fatal(e)
		}
		for _, c := range want {
			if got, e := counter.Add(first, c); e != api.ErrCounter || !signer.Same(got, api.Signer{}) {
				t.Fatal("twice", e)
			}
		}
	}
}

func TestAddWrong(t *testing.T) {
	broken := plain(1)
	broken.Way = 9
	long := plain(1)
	long.Unsigned = []api.Node{seq(prim(6, 0x2a, 1), set(tree.Prim(0, 4, make([]byte, 65400))))}
	great := plain(2)
	great.Unsigned = []api.Node{seq(prim(6, 0x2a, 1), set(tree.Prim(0, 4, make([]byte, 65000))))}
	greatest := plain(2)
	greatest.Unsigned = []api.Node{seq(prim(6, 0x2a, 1), set(tree.Prim(0, 4, make([]byte, 65200))))}
	deep := tree.Int(1)
	for range 15 {
		deep = seq(deep)
	}
	deepest := plain(3)
	deepest.Unsigned = []api.Node{seq(prim(6, 0x2a, 1), set(deep))}
	full := sample.Signer()
	full.Unsigned = nil
	for n := range byte(20) {
		full.Unsigned = append(full.Unsigned, sample.Other(n))
	}
	short := sample.Signer()
	short.Unsigned = nil
	for i, x := range []struct {
		s, c api.Signer
		e    api.Errno
	}{{sample.Signer(), plain(1), api.OK}, {sample.Signer(), broken, api.ErrSigner}, {sample.Signer(), api.Signer{}, api.ErrSigner}, {sample.Signer(), long, api.ErrLong}, {short, great, api.OK}, {short, greatest, api.ErrLong}, {short, deepest, api.OK}, {full, plain(1), api.ErrSigner}, {full, broken, api.ErrSigner}, {api.Signer{}, plain(1), api.ErrSigner}} {
		got, e := counter.Add(x.s, x.c)
		if e != x.e || e != api.OK && !signer.Same(got, api.Signer{}) {
			t.Error(i, e)
		}
	}
	// A countersignature that lies one node deeper than may be, once it is within another signer.
	deepest.Unsigned = []api.Node{seq(prim(6, 0x2a, 1), set(seq(deep)))}
	if _, e := counter.Add(short, deepest); e != api.ErrSigner {
		t.Error(e)
	}
	// Of two that are added, the latter one is too long.
	half := plain(4)
	half.Unsigned = []api.Node{seq(prim(6, 0x2a, 1), set(tree.Prim(0, 4, make([]byte, 40000))))}
	once, e := counter.Add(short, half)
	if e != api.OK {
		t.Error(e)
	}
	half.Serial = []byte{9}
	if got, e := counter.Add(once, half); e != api.ErrSigner || !signer.Same(got, api.Signer{}) {
		t.Error(e)
	}
}

func TestSignAndVerify(t *testing.T) {
	k := sample.Large()
	s, _ := signer.Sign(sample.Signer(), sample.Small(), make([]byte, 32))
	signed, _ := signer.Signed(s)
	for _, way := range []api.Way{api.Pkcs, api.Pss} {
		for h := api.Sha224; h <= api.Sha512; h++ {
			c := plain(1)
			c.Way, c.Hash, c.Attrs.Type = way, h, []byte{0x2a}
			salt := bytes.Repeat([]byte{byte(h)}, mask.Size(h))
			tied := c
			tied.Attrs.Type = nil
			tied.Attrs.Digest, _ = mask.Sum(h, s.Sig)
			want, _ := signer.Sign(tied, k, salt)
			got, e := counter.Sign(s, c, k, salt)
			if e != api.OK {
				t.Fatal(way, h, e)
			}
			are(t, got, want)
			if !counter.Tied(got, want) || !counter.Verify(got, want, k) || counter.Verify(got, want, sample.Small()) || counter.Verify(s, want, k) || counter.Verify(got, tied, k) || counter.Verify(got, api.Signer{}, k) {
				t.Error(way, h)
			}
			if again, e := signer.Signed(got); e != api.OK || !bytes.Equal(again, signed) || !signer.Verify(got, sample.Small()) {
				t.Error("what was signed hangs on its countersignatures", way, h)
			}
			other := got
			other.Sig = bytes.Clone(got.Sig)
			other.Sig[0] ^= 1
			if counter.Verify(other, want, k) {
				t.Error("of another signature", way, h)
			}
			wrong := want
			wrong.Sig = bytes.Clone(want.Sig)
			wrong.Sig[0] ^= 1
			forged, _ := counter.Add(s, wrong)
			if counter.Verify(forged, wrong, k) {
				t.Error("a forged one is verified", way, h)
			}
			loose, _ := signer.Sign(c, k, salt)
			added, _ := counter.Add(s, loose)
			if counter.Verify(added, loose, k) {
				t.Error("one that is not tied is verified", way, h)
			}
			broken := got
			broken.Unsigned = append([]api.Node{tree.Int(1)}, got.Unsigned...)
			if counter.Verify(broken, want, k) {
				t.Error("of a signer that may not be", way, h)
			}
		}
	}
}

func TestSignWrong(t *testing.T) {
	k, salt := sample.Small(), make([]byte, 32)
	public := k
	public.D = nil
	broken, noHash, pss := plain(1), plain(1), plain(1)
	broken.Way, noHash.Hash, pss.Way = 9, 0, api.Pss
	wrong := sample.Signer()
	wrong.Unsigned = []api.Node{counters(tree.Int(1))}
	s := sample.Signer()
	once, _ := counter.Sign(s, plain(1), k, salt)
	full := sample.Signer()
	full.Unsigned = nil
	for n := range byte(20) {
		full.Unsigned = append(full.Unsigned, sample.Other(n))
	}
	for i, x := range []struct {
		s, c api.Signer
		k    api.Key
		salt []byte
		e    api.Errno
	}{{s, plain(1), k, salt, api.OK}, {s, plain(1), k, nil, api.OK}, {s, pss, k, salt, api.OK}, {s, pss, k, nil, api.ErrSign}, {s, plain(1), public, salt, api.ErrKey}, {s, broken, public, salt, api.ErrSigner}, {s, noHash, public, salt, api.ErrSigner}, {wrong, broken, public, salt, api.ErrCounter}, {api.Signer{}, broken, public, salt, api.ErrSigner}, {once, plain(1), k, salt, api.ErrCounter}, {once, plain(1), public, salt, api.ErrKey}, {full, plain(1), k, salt, api.ErrSigner}} {
		got, e := counter.Sign(x.s, x.c, x.k, x.salt)
		if e != x.e || e != api.OK && !signer.Same(got, api.Signer{}) {
			t.Error(i, e)
		}
	}
}

func TestMemory(t *testing.T) {
	s, c := sample.Signer(), plain(1)
	got, _ := counter.Add(s, c)
	l, _ := counter.List(got)
	kept := built(t, got)
	l[0].Issuer[0].Text = "x"
	clear(l[0].Serial)
	clear(l[0].Attrs.Digest)
	if !tree.Same(built(t, got), kept) {
		t.Error("a list shares memory with its signer")
	}
	for _, b := range [][]byte{got.Serial, got.Sig, got.Attrs.Digest, got.Unsigned[0].Kids[0].Bytes, got.Unsigned[1].Kids[0].Bytes, got.Unsigned[2].Kids[0].Bytes} {
		clear(b)
	}
	got.Issuer[0].Text = "x"
	if !signer.Same(s, sample.Signer()) || !signer.Same(c, plain(1)) {
		t.Error("what is answered shares memory with what was handed in")
	}
}
