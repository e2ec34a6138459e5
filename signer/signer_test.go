package signer_test

import (
	"bytes"
	"encoding/hex"
	"math/rand"
	"slices"
	"testing"

	"postmark/api"
	"postmark/attr"
	"postmark/cert"
	"postmark/der"
	"postmark/mask"
	"postmark/rsa"
	"postmark/sample"
	"postmark/signer"
	"postmark/tree"
)

var empty = api.Node{}

func seq(kids ...api.Node) api.Node { return tree.Cons(api.Universal, api.TagSeq, kids...) }

func set(kids ...api.Node) api.Node { return tree.Cons(api.Universal, api.TagSet, kids...) }

func prim(tag int, b ...byte) api.Node { return tree.Prim(api.Universal, tag, b) }

// others are so many attributes, in order.
func others(n int) []api.Node {
	var l []api.Node
	for i := range n {
		l = append(l, sample.Other(byte(i)))
	}
	return l
}

// text is an attribute with a text of so many bytes.
func text(id byte, size int) api.Node {
	return seq(prim(6, 0x2a, id), set(tree.Prim(0, 4, make([]byte, size))))
}

// deep is an attribute that is so deep.
func deep(n int) api.Node {
	x := tree.Int(1)
	for range n - 3 {
		x = seq(x)
	}
	return seq(prim(6, 0x2a, 1), set(x))
}

// wide is an attribute with so many nodes.
func wide(id byte, n int) api.Node {
	x := seq(prim(6, 0x2a, id), set(seq()))
	for range n - 4 {
		x.Kids[1].Kids[0].Kids = append(x.Kids[1].Kids[0].Kids, tree.Int(1))
	}
	return x
}

func TestTree(t *testing.T) {
	for _, null := range []bool{true, false} {
		for _, way := range []api.Way{api.Pkcs, api.Pss} {
			s := sample.Signer()
			s.Null, s.Way, s.Hash = null, way, api.Sha384
			name, _ := cert.BuildName(s.Issuer)
			hash, _ := cert.HashAlg(s.Hash, null)
			alg, _ := cert.SignAlg(way, s.Hash)
			attrs, _ := attr.Build(s.Attrs)
			want := seq(tree.Int(1), seq(name, prim(2, 0x12, 0x34)), hash, tree.Cons(2, 0, attrs.Kids...), alg, prim(4, 4, 5, 6), tree.Cons(2, 1, s.Unsigned...))
			got, e := signer.Build(s)
			if e != api.OK || !tree.Same(got, want) {
				t.Error(got, e)
			}
			if back, e := signer.Read(got); e != api.OK || !signer.Same(back, s) {
				t.Error(back, e)
			}
			s.Unsigned = nil
			want.Kids = want.Kids[:6]
			if got, e := signer.Build(s); e != api.OK || !tree.Same(got, want) {
				t.Error(got, e)
			}
			signed, e := signer.Signed(s)
			if b, _ := der.Encode(attrs); e != api.OK || !bytes.Equal(signed, b) {
				t.Error(signed, e)
			}
		}
	}
	s := sample.Signer()
	s.Attrs = api.Attrs{Digest: []byte{1}, Time: api.NoTime}
	if b, e := signer.Signed(s); e != api.OK || hex.EncodeToString(b) != "3112301006092a864886f70d01090431030401"+"01" {
		t.Errorf("%x %v", b, e)
	}
}

// TestMayBe goes through what keeps a signer from being.
func TestMayBe(t *testing.T) {
	for i, x := range []struct {
		turn func(s *api.Signer)
		e    api.Errno
	}{
		{func(s *api.Signer) {}, api.OK}, {func(s *api.Signer) { s.Issuer = nil }, api.ErrSigner}, {func(s *api.Signer) { s.Issuer[0].Kind = 7 }, api.ErrSigner}, {func(s *api.Signer) { s.Serial = nil }, api.ErrSigner}, {func(s *api.Signer) { s.Serial = []byte{0} }, api.ErrSigner}, {func(s *api.Signer) { s.Serial = []byte{128} }, api.ErrSigner}, {func(s *api.Signer) { s.Serial = []byte{0, 1} }, api.ErrSigner}, {func(s *api.Signer) { s.Serial = bytes.Repeat([]byte{1}, 20) }, api.OK}, {func(s *api.Signer) { s.Serial = bytes.Repeat([]byte{1}, 21) }, api.ErrSigner},
		{func(s *api.Signer) { s.Hash = 0 }, api.ErrSigner}, {func(s *api.Signer) { s.Hash = 5 }, api.ErrSigner}, {func(s *api.Signer) { s.Way = 0 }, api.ErrSigner}, {func(s *api.Signer) { s.Way = 3 }, api.ErrSigner}, {func(s *api.Signer) { s.Null = false }, api.OK},
		{func(s *api.Signer) { s.Attrs.Digest = nil }, api.ErrSigner}, {func(s *api.Signer) { s.Attrs = api.Attrs{} }, api.ErrSigner}, {func(s *api.Signer) { s.Attrs.Time = 5 }, api.ErrSigner}, {func(s *api.Signer) { s.Attrs = api.Attrs{Digest: []byte{1}} }, api.OK},
		{func(s *api.Signer) { s.Sig = nil }, api.OK}, {func(s *api.Signer) { s.Sig = make([]byte, 512) }, api.OK}, {func(s *api.Signer) { s.Sig = make([]byte, 513) }, api.ErrSigner},
		{func(s *api.Signer) { s.Unsigned = nil }, api.OK}, {func(s *api.Signer) { s.Unsigned = others(20) }, api.OK}, {func(s *api.Signer) { s.Unsigned = others(21) }, api.ErrSigner}, {func(s *api.Signer) { slices.Reverse(s.Unsigned) }, api.ErrSigner}, {func(s *api.Signer) { s.Unsigned[1] = s.Unsigned[0] }, api.ErrSigner}, {func(s *api.Signer) { s.Unsigned[1] = seq(prim(6, 0x2a, 7), set(tree.Int(100))) }, api.ErrSigner}, {func(s *api.Signer) {
			s.Unsigned = []api.Node{sample.Other(3), sample.Other(4), seq(prim(6, 0x2a, 3), set(tree.Int(300)))}
		}, api.ErrSigner},
		{func(s *api.Signer) { s.Unsigned = []api.Node{tree.Int(1)} }, api.ErrSigner}, {func(s *api.Signer) { s.Unsigned[0] = empty }, api.ErrSigner}, {func(s *api.Signer) { s.Unsigned[0].Kids[1].Kids = nil }, api.ErrSigner}, {func(s *api.Signer) { s.Unsigned[0].Kids = s.Unsigned[0].Kids[:1] }, api.ErrSigner}, {func(s *api.Signer) { s.Unsigned[0].Kids = append(s.Unsigned[0].Kids, tree.Int(1)) }, api.ErrSigner}, {func(s *api.Signer) { s.Unsigned[0].Tag = 17 }, api.ErrSigner}, {func(s *api.Signer) { s.Unsigned[0].Kids[0].Tag = 4 }, api.ErrSigner}, {func(s *api.Signer) { s.Unsigned[0].Kids[1].Tag = 16 }, api.ErrSigner}, {func(s *api.Signer) { s.Unsigned[0].Kids[1].Class = 2 }, api.ErrSigner}, {func(s *api.Signer) { s.Unsigned[0].Class = 2 }, api.ErrSigner}, {func(s *api.Signer) { s.Unsigned[1].Kids[1].Kids = []api.Node{tree.Int(6), tree.Int(5)} }, api.ErrSigner}, {func(s *api.Signer) { s.Unsigned[1].Kids[1].Kids = []api.Node{tree.Int(5), tree.Int(6)} }, api.OK},
		{func(s *api.Signer) { s.Unsigned = []api.Node{text(1, 66000)} }, api.ErrSigner}, {func(s *api.Signer) { s.Unsigned = []api.Node{text(1, 65500)} }, api.ErrLong}, {func(s *api.Signer) { s.Unsigned = []api.Node{text(1, 40000), text(2, 40000)} }, api.ErrLong}, {func(s *api.Signer) { s.Unsigned = []api.Node{text(1, 64000)} }, api.OK},
		{func(s *api.Signer) { s.Attrs.Others = []api.Node{text(1, 65500)} }, api.ErrLong}, {func(s *api.Signer) { s.Attrs.Others = []api.Node{text(1, 66000)} }, api.ErrSigner}, {func(s *api.Signer) { s.Attrs.Others = []api.Node{text(1, 65150)} }, api.ErrLong}, {func(s *api.Signer) { s.Attrs.Others = []api.Node{text(1, 40000), text(2, 40000)} }, api.ErrLong},
		{func(s *api.Signer) { s.Attrs.Others, s.Way = []api.Node{text(1, 65500)}, 0 }, api.ErrSigner}, {func(s *api.Signer) {
			s.Attrs.Others, s.Unsigned = []api.Node{text(1, 65500)}, []api.Node{deep(23)}
		}, api.ErrLong},
		{func(s *api.Signer) { s.Unsigned = []api.Node{deep(22)} }, api.OK}, {func(s *api.Signer) { s.Unsigned = []api.Node{deep(23)} }, api.ErrSigner}, {func(s *api.Signer) { s.Unsigned = []api.Node{deep(25)} }, api.ErrSigner}, {func(s *api.Signer) { s.Attrs.Others = []api.Node{deep(22)} }, api.OK}, {func(s *api.Signer) { s.Attrs.Others = []api.Node{deep(23)} }, api.ErrSigner},
		{func(s *api.Signer) { s.Unsigned = []api.Node{wide(1, 3800)} }, api.OK}, {func(s *api.Signer) { s.Unsigned = []api.Node{wide(1, 3990)} }, api.ErrSigner}, {func(s *api.Signer) { s.Unsigned = []api.Node{wide(1, 3000), text(2, 65000), wide(3, 3000)} }, api.ErrSigner},
	} {
		s := sample.Signer()
		x.turn(&s)
		got, e := signer.Build(s)
		if e != x.e || e != api.OK && !tree.Same(got, empty) {
			t.Error(i, e)
		}
		b, f := signer.Signed(s)
		if f != e || (b == nil) != (e != api.OK) {
			t.Error(i, f)
		}
		if e != api.OK {
			continue
		}
		if back, e := signer.Read(got); e != api.OK || !signer.Same(back, s) {
			t.Error(i, back, e)
		}
	}
}

func TestRead(t *testing.T) {
	r := rand.New(rand.NewSource(1))
	read := 0
	for _, s := range []api.Signer{sample.Signer(), {Issuer: sample.Name("a"), Serial: []byte{1}, Hash: api.Sha512, Way: api.Pkcs, Attrs: api.Attrs{Digest: []byte{1}, Time: api.NoTime}}} {
		x, e := signer.Build(s)
		if e != api.OK {
			t.Fatal(e)
		}
		for range 4000 {
			turned := sample.Turned(r.Intn, x)
			back, e := signer.Read(turned)
			if e != api.OK {
				if e != api.ErrSigner || !signer.Same(back, api.Signer{}) {
					t.Fatal(turned, back, e)
				}
				continue
			}
			read++
			if again, e := signer.Build(back); e != api.OK || !tree.Same(again, turned) || signer.Same(back, s) != tree.Same(turned, x) {
				t.Fatal(turned, back, e)
			}
		}
	}
	if read < 200 {
		t.Error("few that are read", read)
	}
	x, _ := signer.Build(sample.Signer())
	other, _ := cert.SignAlg(api.Pss, api.Sha512)
	for i, turn := range []func(x *api.Node){func(x *api.Node) { *x = empty }, func(x *api.Node) { x.Kids[0] = tree.Int(3) }, func(x *api.Node) { x.Kids[4] = other }, func(x *api.Node) { x.Kids[3].Kids[0], x.Kids[3].Kids[1] = x.Kids[3].Kids[1], x.Kids[3].Kids[0] }, func(x *api.Node) { x.Kids[6].Kids = nil }, func(x *api.Node) { x.Kids[6].Tag = 2 }, func(x *api.Node) { x.Kids = x.Kids[:5] }, func(x *api.Node) { x.Kids = append(x.Kids, tree.Int(1)) }} {
		turned := tree.Copy(x)
		turn(&turned)
		if back, e := signer.Read(turned); e != api.ErrSigner || !signer.Same(back, api.Signer{}) {
			t.Error(i, back, e)
		}
	}
}

func TestSignAndVerify(t *testing.T) {
	k := sample.Large()
	for _, way := range []api.Way{api.Pkcs, api.Pss} {
		for h := api.Sha224; h <= api.Sha512; h++ {
			s := sample.Signer()
			s.Way, s.Hash = way, h
			salt := bytes.Repeat([]byte{byte(h)}, mask.Size(h))
			got, e := signer.Sign(s, k, salt)
			b, _ := signer.Signed(s)
			digest, _ := mask.Sum(h, b)
			sig, _ := rsa.Sign(k, way, h, digest, salt)
			want := sample.Signer()
			want.Way, want.Hash, want.Sig = way, h, sig
			if e != api.OK || !signer.Same(got, want) || !signer.Verify(got, k) || len(s.Sig) != 3 {
				t.Fatal(way, h, e)
			}
			public := k
			public.D = nil
			if !signer.Verify(got, public) || signer.Verify(got, sample.Small()) || signer.Verify(got, api.Key{}) || signer.Verify(s, k) {
				t.Error(way, h)
			}
			got.Unsigned = nil
			if !signer.Verify(got, k) {
				t.Error("hangs on what is not signed", way, h)
			}
			got.Unsigned = []api.Node{tree.Int(1)}
			if signer.Verify(got, k) {
				t.Error("what may not be is verified", way, h)
			}
			got.Unsigned = nil
			for i, turn := range []func(s *api.Signer){func(s *api.Signer) { s.Attrs.Digest[0] ^= 1 }, func(s *api.Signer) { s.Attrs.Time = api.NoTime }, func(s *api.Signer) { s.Attrs.Type = nil }, func(s *api.Signer) { s.Attrs.Others = nil }, func(s *api.Signer) { s.Attrs.Cert = api.CertID{} }, func(s *api.Signer) { s.Sig[0] ^= 1 }, func(s *api.Signer) { s.Sig = nil }, func(s *api.Signer) { s.Way = 3 - s.Way }, func(s *api.Signer) { s.Hash = s.Hash%4 + 1 }} {
				wrong, _ := signer.Sign(s, k, salt)
				turn(&wrong)
				if signer.Verify(wrong, k) {
					t.Error(way, h, i)
				}
			}
			for i, turn := range []func(s *api.Signer){func(s *api.Signer) { s.Issuer = sample.Name("b") }, func(s *api.Signer) { s.Null = false }} {
				right, _ := signer.Sign(s, k, salt)
				turn(&right)
				if !signer.Verify(right, k) {
					t.Error(way, h, i)
				}
			}
		}
	}
}

func TestSignWrong(t *testing.T) {
	k := sample.Small()
	public := k
	public.D = nil
	salt := make([]byte, 32)
	long := sample.Signer()
	long.Attrs.Others = []api.Node{text(1, 65500)}
	sig := sample.Signer()
	sig.Sig = make([]byte, 9999)
	broken := sample.Signer()
	broken.Way = 3
	great := sample.Signer()
	great.Hash = api.Sha512
	for i, x := range []struct {
		s    api.Signer
		k    api.Key
		salt []byte
		e    api.Errno
	}{{sample.Signer(), k, salt, api.OK}, {sig, k, salt, api.OK}, {sample.Signer(), public, salt, api.ErrKey}, {sample.Signer(), k, salt[1:], api.ErrSign}, {sample.Signer(), k, nil, api.ErrSign}, {great, k, make([]byte, 64), api.ErrSign}, {broken, public, salt, api.ErrSigner}, {long, public, salt, api.ErrLong}} {
		got, e := signer.Sign(x.s, x.k, x.salt)
		if e != x.e || e != api.OK && !signer.Same(got, api.Signer{}) {
			t.Error(i, e)
		}
	}
	// With its signature a signer may be longer than it may be; it is answered all the same.
	edge := sample.Signer()
	edge.Sig, edge.Unsigned = nil, nil
	for size := 65100; ; size++ {
		edge.Unsigned = []api.Node{text(1, size)}
		if _, e := signer.Build(edge); e != api.OK {
			edge.Unsigned = []api.Node{text(1, size-1)}
			break
		}
	}
	got, e := signer.Sign(edge, k, salt)
	if _, f := signer.Build(got); e != api.OK || len(got.Sig) != 73 || f != api.ErrLong {
		t.Error(len(got.Sig), e, f)
	}
}

func TestSame(t *testing.T) {
	for i, turn := range []func(s *api.Signer){
		func(s *api.Signer) { s.Issuer[1].Text = "b" }, func(s *api.Signer) { s.Issuer = s.Issuer[:1] }, func(s *api.Signer) { s.Serial = []byte{1} }, func(s *api.Signer) { s.Hash = 3 }, func(s *api.Signer) { s.Null = false }, func(s *api.Signer) { s.Way = 1 }, func(s *api.Signer) { s.Sig = nil }, func(s *api.Signer) { s.Unsigned = nil }, func(s *api.Signer) { s.Unsigned[1].Kids[1].Kids[0] = tree.Int(8) }, func(s *api.Signer) { slices.Reverse(s.Unsigned) },
		func(s *api.Signer) { s.Attrs.Type = nil }, func(s *api.Signer) { s.Attrs.Digest[5] = 0 }, func(s *api.Signer) { s.Attrs.Time++ }, func(s *api.Signer) { s.Attrs.Others = s.Attrs.Others[1:] }, func(s *api.Signer) { s.Attrs.Others[0] = sample.Other(2) }, func(s *api.Signer) { s.Attrs.Cert.Hash = 1 }, func(s *api.Signer) { s.Attrs.Cert.Digest[0] = 0 }, func(s *api.Signer) { s.Attrs.Cert.Issuer = nil }, func(s *api.Signer) { s.Attrs.Cert.Serial = nil },
	} {
		s := sample.Signer()
		turn(&s)
		if signer.Same(s, sample.Signer()) || signer.Same(sample.Signer(), s) {
			t.Error(i)
		}
	}
	blank := api.Signer{Issuer: api.Name{}, Serial: []byte{}, Sig: []byte{}, Unsigned: []api.Node{}, Attrs: api.Attrs{Type: []byte{}, Digest: []byte{}, Others: []api.Node{}, Cert: api.CertID{Digest: []byte{}, Issuer: api.Name{}, Serial: []byte{}}}}
	if !signer.Same(sample.Signer(), sample.Signer()) || !signer.Same(blank, api.Signer{}) || !signer.Same(api.Signer{}, blank) {
		t.Error("not the same")
	}
}

func TestMemory(t *testing.T) {
	s := sample.Signer()
	x, _ := signer.Build(s)
	kept := tree.Copy(x)
	back, _ := signer.Read(x)
	k, salt := sample.Small(), make([]byte, 32)
	signed, _ := signer.Sign(s, k, salt)
	for _, y := range []api.Signer{back, signed} {
		for _, b := range [][]byte{y.Serial, y.Sig, y.Attrs.Type, y.Attrs.Digest, y.Attrs.Cert.Digest, y.Attrs.Cert.Serial, y.Attrs.Others[0].Kids[0].Bytes, y.Unsigned[0].Kids[0].Bytes, y.Unsigned[1].Kids[1].Kids[0].Bytes} {
			clear(b[:cap(b)])
		}
		y.Issuer[0].Text, y.Attrs.Cert.Issuer[0].Text, y.Unsigned[0].Tag, y.Attrs.Others[0].Kids[1].Tag = "x", "x", 9, 9
	}
	if !tree.Same(x, kept) || !signer.Same(s, sample.Signer()) {
		t.Error("what is answered shares memory with what was handed in")
	}
	clear(x.Kids[5].Bytes)
	clear(x.Kids[6].Kids[0].Kids[0].Bytes)
	if !signer.Same(s, sample.Signer()) {
		t.Error("a tree shares memory with its signer")
	}
}
