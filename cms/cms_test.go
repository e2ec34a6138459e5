package cms_test

import (
	"bytes"
	"encoding/hex"
	"math/rand"
	"slices"
	"testing"

	"postmark/api"
	"postmark/cert"
	"postmark/cms"
	"postmark/der"
	"postmark/mask"
	"postmark/oid"
	"postmark/sample"
	"postmark/signer"
	"postmark/tree"
)

var empty = api.Node{}

func seq(kids ...api.Node) api.Node { return tree.Cons(api.Universal, api.TagSeq, kids...) }

func set(kids ...api.Node) api.Node { return tree.Cons(api.Universal, api.TagSet, kids...) }

func prim(tag int, b ...byte) api.Node { return tree.Prim(api.Universal, tag, b) }

// text is a sequence with a text of so many bytes.
func text(size int) api.Node { return seq(tree.Prim(0, 4, make([]byte, size))) }

// certs are so many certificates, in order.
func certs(n int) []api.Node {
	var l []api.Node
	for i := range n {
		l = append(l, seq(tree.Int(int64(i))))
	}
	return l
}

// deep is a sequence that is so deep.
func deep(n int) api.Node {
	x := tree.Int(1)
	for range n - 1 {
		x = seq(x)
	}
	return x
}

// wide is a sequence with so many nodes.
func wide(n int) api.Node {
	x := seq()
	for range n - 1 {
		x.Kids = append(x.Kids, tree.Int(1))
	}
	return x
}

func TestTree(t *testing.T) {
	for i, kind := range [][]byte{oid.Named("data"), oid.Named("tstInfo"), {0x2a}} {
		for _, null := range []bool{true, false} {
			x := sample.Cms()
			x.Type, x.Signer.Null = kind, null
			version := int64(3)
			if i == 0 {
				version = 1
			}
			hash, _ := cert.HashAlg(x.Signer.Hash, null)
			who, _ := signer.Build(x.Signer)
			content := seq(prim(6, kind...), tree.Cons(2, 0, prim(4, x.Content...)))
			want := seq(prim(6, oid.Named("signed")...), tree.Cons(2, 0, seq(tree.Int(version), set(hash), content, tree.Cons(2, 0, x.Certs...), set(who))))
			got, e := cms.Build(x)
			if e != api.OK || !tree.Same(got, want) {
				t.Error(i, got, e)
			}
			if back, e := cms.Read(got); e != api.OK || !cms.Same(back, x) {
				t.Error(i, back, e)
			}
			x.Certs, x.Content = nil, nil
			want = seq(want.Kids[0], tree.Cons(2, 0, seq(tree.Int(version), set(hash), seq(prim(6, kind...), tree.Cons(2, 0, prim(4))), set(who))))
			got, e = cms.Build(x)
			if e != api.OK || !tree.Same(got, want) {
				t.Error(i, got, e)
			}
			if back, e := cms.Read(got); e != api.OK || !cms.Same(back, x) {
				t.Error(i, back, e)
			}
		}
	}
	x := sample.Cms()
	x.Content = []byte("a")
	got, _ := cms.Build(x)
	if b, _ := der.Encode(got.Kids[1].Kids[0].Kids[2]); hex.EncodeToString(b) != "301006092a864886f70d010701a003040161" {
		t.Errorf("%x", b)
	}
}

// TestMayBe goes through what keeps signed data from being.
func TestMayBe(t *testing.T) {
	other := func(size int) []api.Node {
		return []api.Node{seq(prim(6, 0x2a, 1), set(tree.Prim(0, 4, make([]byte, size))))}
	}
	for i, x := range []struct {
		turn func(x *api.Cms)
		e    api.Errno
	}{
		{func(x *api.Cms) {}, api.OK}, {func(x *api.Cms) { x.Type = nil }, api.ErrCms}, {func(x *api.Cms) { x.Type = []byte{0x80} }, api.ErrCms}, {func(x *api.Cms) { x.Type = []byte{0x2a, 0x80} }, api.ErrCms}, {func(x *api.Cms) { x.Content = nil }, api.OK},
		{func(x *api.Cms) { x.Certs = nil }, api.OK}, {func(x *api.Cms) { x.Certs = certs(10) }, api.OK}, {func(x *api.Cms) { x.Certs = certs(11) }, api.ErrCms}, {func(x *api.Cms) { slices.Reverse(x.Certs) }, api.ErrCms}, {func(x *api.Cms) { x.Certs[1] = x.Certs[0] }, api.ErrCms}, {func(x *api.Cms) { x.Certs = []api.Node{tree.Int(1)} }, api.ErrCms}, {func(x *api.Cms) { x.Certs[0] = empty }, api.ErrCms}, {func(x *api.Cms) { x.Certs[1] = set(tree.Int(9)) }, api.ErrCms}, {func(x *api.Cms) { x.Certs[1].Class = 2 }, api.ErrCms}, {func(x *api.Cms) { x.Certs = []api.Node{seq(set(tree.Int(2), tree.Int(1)))} }, api.ErrCms}, {func(x *api.Cms) { x.Certs = []api.Node{seq(prim(2))} }, api.ErrCms}, {func(x *api.Cms) { x.Certs = []api.Node{seq(tree.Int(1)), seq(tree.Int(3)), seq(tree.Int(2))} }, api.ErrCms}, {func(x *api.Cms) { x.Certs = []api.Node{seq()} }, api.OK},
		{func(x *api.Cms) { x.Signer.Serial = nil }, api.ErrCms}, {func(x *api.Cms) { x.Signer.Attrs.Digest = nil }, api.ErrCms}, {func(x *api.Cms) { x.Signer = api.Signer{} }, api.ErrCms}, {func(x *api.Cms) { x.Signer.Unsigned = []api.Node{tree.Int(1)} }, api.ErrCms},
		{func(x *api.Cms) { x.Signer.Unsigned = other(65400) }, api.ErrLong}, {func(x *api.Cms) { x.Signer.Unsigned, x.Type = other(65400), nil }, api.ErrCms}, {func(x *api.Cms) { x.Signer.Unsigned, x.Certs = other(65400), []api.Node{tree.Int(1)} }, api.ErrCms}, {func(x *api.Cms) { x.Signer.Unsigned, x.Certs = other(65400), []api.Node{deep(23)} }, api.ErrLong}, {func(x *api.Cms) { x.Signer.Attrs.Others = other(65400) }, api.ErrLong}, {func(x *api.Cms) { x.Signer.Unsigned = other(66000) }, api.ErrCms},
		{func(x *api.Cms) { x.Content = make([]byte, 70000) }, api.ErrLong}, {func(x *api.Cms) { x.Content = make([]byte, 64000) }, api.OK}, {func(x *api.Cms) { x.Content = make([]byte, 65500) }, api.ErrLong}, {func(x *api.Cms) { x.Certs = []api.Node{text(65400)} }, api.ErrLong}, {func(x *api.Cms) { x.Certs = []api.Node{text(66000)} }, api.ErrCms}, {func(x *api.Cms) { x.Certs = []api.Node{text(40000), text(40001)} }, api.ErrLong},
		{func(x *api.Cms) { x.Certs = []api.Node{deep(20)} }, api.OK}, {func(x *api.Cms) { x.Certs = []api.Node{deep(21)} }, api.ErrCms}, {func(x *api.Cms) { x.Certs = []api.Node{deep(24)} }, api.ErrCms}, {func(x *api.Cms) { x.Certs = []api.Node{wide(3800)} }, api.OK}, {func(x *api.Cms) { x.Certs = []api.Node{wide(4000)} }, api.ErrCms}, {func(x *api.Cms) { x.Certs = []api.Node{wide(3000), wide(3001)} }, api.ErrCms}, {func(x *api.Cms) { x.Certs, x.Content = []api.Node{wide(4000)}, make([]byte, 70000) }, api.ErrCms},
	} {
		y := sample.Cms()
		x.turn(&y)
		got, e := cms.Build(y)
		if e != x.e || e != api.OK && !tree.Same(got, empty) {
			t.Error(i, e)
		}
		if e != api.OK {
			continue
		}
		if back, e := cms.Read(got); e != api.OK || !cms.Same(back, y) {
			t.Error(i, back, e)
		}
	}
}

func TestRead(t *testing.T) {
	r := rand.New(rand.NewSource(1))
	read := 0
	bare := sample.Cms()
	bare.Certs, bare.Type, bare.Signer.Unsigned = nil, oid.Named("tstInfo"), nil
	for _, c := range []api.Cms{sample.Cms(), bare} {
		x, e := cms.Build(c)
		if e != api.OK {
			t.Fatal(e)
		}
		for range 3000 {
			turned := sample.Turned(r.Intn, x)
			back, e := cms.Read(turned)
			if e != api.OK {
				if e != api.ErrCms || !cms.Same(back, api.Cms{}) {
					t.Fatal(turned, back, e)
				}
				continue
			}
			read++
			if again, e := cms.Build(back); e != api.OK || !tree.Same(again, turned) || cms.Same(back, c) != tree.Same(turned, x) {
				t.Fatal(turned, back, e)
			}
		}
	}
	if read < 200 {
		t.Error("few that are read", read)
	}
	x, _ := cms.Build(sample.Cms())
	noNull, _ := cert.HashAlg(api.Sha256, false)
	for i, turn := range []func(x, parts *api.Node){
		func(x, parts *api.Node) { *x = empty }, func(x, parts *api.Node) { x.Kids[0] = prim(6, oid.Named("data")...) }, func(x, parts *api.Node) { x.Kids = x.Kids[:1] }, func(x, parts *api.Node) { x.Kids[1].Tag = 1 }, func(x, parts *api.Node) { parts.Kids[0] = tree.Int(3) }, func(x, parts *api.Node) { parts.Kids[1].Kids[0] = noNull }, func(x, parts *api.Node) { parts.Kids[1].Kids = nil }, func(x, parts *api.Node) { parts.Kids[2].Kids = parts.Kids[2].Kids[:1] }, func(x, parts *api.Node) { parts.Kids[3].Kids = nil }, func(x, parts *api.Node) { parts.Kids = parts.Kids[:4] }, func(x, parts *api.Node) { parts.Kids[4].Kids = append(parts.Kids[4].Kids, parts.Kids[4].Kids[0]) }, func(x, parts *api.Node) { slices.Reverse(parts.Kids[3].Kids) }, func(x, parts *api.Node) { parts.Kids[2].Kids[0] = prim(6, 0x2a) },
	} {
		turned := tree.Copy(x)
		turn(&turned, &turned.Kids[1].Kids[0])
		if back, e := cms.Read(turned); e != api.ErrCms || !cms.Same(back, api.Cms{}) {
			t.Error(i, back, e)
		}
	}
}

func TestTied(t *testing.T) {
	for h := api.Sha224; h <= api.Sha512; h++ {
		x := sample.Cms()
		x.Signer.Hash = h
		if cms.Tied(x) {
			t.Error(h)
		}
		x.Signer.Attrs.Digest, _ = mask.Sum(h, x.Content)
		if !cms.Tied(x) {
			t.Error(h)
		}
		for i, turn := range []func(x *api.Cms){func(x *api.Cms) { x.Content = append(x.Content, 0) }, func(x *api.Cms) { x.Type = []byte{0x2a} }, func(x *api.Cms) { x.Type = nil }, func(x *api.Cms) { x.Signer.Attrs.Type = nil }, func(x *api.Cms) { x.Signer.Hash = h%4 + 1 }, func(x *api.Cms) { x.Signer.Hash = 0 }, func(x *api.Cms) { x.Signer.Attrs.Digest = x.Signer.Attrs.Digest[1:] }} {
			y := x
			turn(&y)
			if cms.Tied(y) {
				t.Error(h, i)
			}
		}
	}
	x := sample.Cms()
	x.Signer.Hash, x.Signer.Attrs.Digest = 0, nil
	if cms.Tied(x) {
		t.Error("tied by no hash")
	}
}

func TestSignAndVerify(t *testing.T) {
	k := sample.Large()
	for _, way := range []api.Way{api.Pkcs, api.Pss} {
		for h := api.Sha224; h <= api.Sha512; h++ {
			x := sample.Cms()
			x.Signer.Way, x.Signer.Hash = way, h
			salt := bytes.Repeat([]byte{byte(h)}, mask.Size(h))
			tied := sample.Signer()
			tied.Way, tied.Hash, tied.Attrs.Type = way, h, x.Type
			tied.Attrs.Digest, _ = mask.Sum(h, x.Content)
			want := sample.Cms()
			want.Signer, _ = signer.Sign(tied, k, salt)
			got, e := cms.Sign(x, k, salt)
			if e != api.OK || !cms.Same(got, want) || !cms.Tied(got) || !cms.Verify(got, k) || cms.Verify(x, k) || cms.Verify(got, sample.Small()) {
				t.Fatal(way, h, e)
			}
			for i, turn := range []func(x *api.Cms){
				func(x *api.Cms) { x.Content[0] ^= 1 }, func(x *api.Cms) { x.Type = oid.Named("tstInfo") }, func(x *api.Cms) { x.Type = nil }, func(x *api.Cms) { x.Certs = []api.Node{tree.Int(1)} }, func(x *api.Cms) { x.Signer.Sig[5] ^= 1 }, func(x *api.Cms) { x.Signer.Attrs.Time = api.NoTime }, func(x *api.Cms) { x.Type, x.Signer.Attrs.Type = []byte{0x2a}, []byte{0x2a} }, func(x *api.Cms) {
					x.Content = []byte("b")
					x.Signer.Attrs.Digest, _ = mask.Sum(h, x.Content)
				},
			} {
				wrong, _ := cms.Sign(x, k, salt)
				turn(&wrong)
				if cms.Verify(wrong, k) {
					t.Error(way, h, i)
				}
			}
			got.Certs = nil
			if !cms.Verify(got, k) {
				t.Error("hangs on the certificates", way, h)
			}
		}
	}
}

func TestSignWrong(t *testing.T) {
	public := sample.Small()
	public.D = nil
	salt := make([]byte, 32)
	for i, x := range []struct {
		turn func(x *api.Cms)
		k    api.Key
		salt []byte
		e    api.Errno
	}{
		{func(x *api.Cms) {}, sample.Small(), salt, api.OK}, {func(x *api.Cms) { x.Signer.Attrs.Type, x.Signer.Attrs.Digest = nil, nil }, sample.Small(), salt, api.OK}, {func(x *api.Cms) {}, public, salt, api.ErrKey}, {func(x *api.Cms) {}, sample.Small(), nil, api.ErrSign}, {func(x *api.Cms) { x.Signer.Way = 3 }, public, salt, api.ErrSigner}, {func(x *api.Cms) { x.Signer.Hash = 0 }, public, salt, api.ErrSigner}, {func(x *api.Cms) { x.Type = []byte{0x80} }, public, salt, api.ErrSigner}, {func(x *api.Cms) { x.Type = nil }, public, salt, api.ErrKey}, {func(x *api.Cms) { x.Type = nil }, sample.Small(), salt, api.ErrCms}, {func(x *api.Cms) { x.Certs = []api.Node{tree.Int(1)} }, public, salt, api.ErrKey}, {func(x *api.Cms) { x.Certs = []api.Node{tree.Int(1)} }, sample.Small(), salt, api.ErrCms}, {func(x *api.Cms) { x.Content = make([]byte, 70000) }, sample.Small(), salt, api.ErrLong}, {func(x *api.Cms) { x.Content = make([]byte, 70000) }, public, salt, api.ErrKey},
	} {
		y := sample.Cms()
		x.turn(&y)
		got, e := cms.Sign(y, x.k, x.salt)
		if e != x.e || e != api.OK && !cms.Same(got, api.Cms{}) {
			t.Error(i, e)
		}
	}
}

func TestSame(t *testing.T) {
	for i, turn := range []func(x *api.Cms){func(x *api.Cms) { x.Type = nil }, func(x *api.Cms) { x.Content = nil }, func(x *api.Cms) { x.Certs = x.Certs[:1] }, func(x *api.Cms) { x.Certs[0] = tree.Int(1) }, func(x *api.Cms) { x.Signer.Null = false }, func(x *api.Cms) { slices.Reverse(x.Certs) }} {
		x := sample.Cms()
		turn(&x)
		if cms.Same(x, sample.Cms()) || cms.Same(sample.Cms(), x) {
			t.Error(i)
		}
	}
	blank := api.Cms{Type: []byte{}, Content: []byte{}, Certs: []api.Node{}}
	if !cms.Same(sample.Cms(), sample.Cms()) || !cms.Same(blank, api.Cms{}) {
		t.Error("not the same")
	}
}

func TestMemory(t *testing.T) {
	x := sample.Cms()
	built, _ := cms.Build(x)
	kept := tree.Copy(built)
	back, _ := cms.Read(built)
	signed, _ := cms.Sign(x, sample.Small(), make([]byte, 32))
	for _, y := range []api.Cms{back, signed} {
		for _, b := range [][]byte{y.Type, y.Content, y.Certs[0].Kids[0].Bytes, y.Signer.Serial, y.Signer.Attrs.Type, y.Signer.Attrs.Digest, y.Signer.Sig, y.Signer.Unsigned[0].Kids[0].Bytes} {
			clear(b[:cap(b)])
		}
		y.Certs[1].Tag, y.Signer.Issuer[0].Text = 9, "x"
	}
	if !tree.Same(built, kept) || !cms.Same(x, sample.Cms()) {
		t.Error("what is answered shares memory with what was handed in")
	}
	clear(built.Kids[1].Kids[0].Kids[2].Kids[1].Kids[0].Bytes)
	clear(built.Kids[1].Kids[0].Kids[3].Kids[0].Kids[0].Bytes)
	if !cms.Same(x, sample.Cms()) {
		t.Error("a tree shares memory with its signed data")
	}
}
