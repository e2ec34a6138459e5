package attr_test

import (
	"bytes"
	"encoding/hex"
	"math"
	"math/rand"
	"slices"
	"strings"
	"testing"

	"postmark/api"
	"postmark/attr"
	"postmark/cert"
	"postmark/der"
	"postmark/mask"
	"postmark/oid"
	"postmark/sample"
	"postmark/tree"
)

var empty = api.Node{}

func seq(kids ...api.Node) api.Node { return tree.Cons(api.Universal, api.TagSeq, kids...) }

func set(kids ...api.Node) api.Node { return tree.Cons(api.Universal, api.TagSet, kids...) }

func prim(tag int, b ...byte) api.Node { return tree.Prim(api.Universal, tag, b) }

// attribute is one by its name, with these values.
func attribute(name string, values ...api.Node) api.Node {
	return seq(prim(api.TagOid, oid.Named(name)...), set(values...))
}

func sameID(a, b api.CertID) bool {
	return a.Hash == b.Hash && bytes.Equal(a.Digest, b.Digest) && slices.Equal(a.Issuer, b.Issuer) && bytes.Equal(a.Serial, b.Serial)
}

func same(a, b api.Attrs) bool {
	return bytes.Equal(a.Type, b.Type) && bytes.Equal(a.Digest, b.Digest) && sameID(a.Cert, b.Cert) && a.Time == b.Time && tree.Same(seq(a.Others...), seq(b.Others...))
}

func TestID(t *testing.T) {
	name, _ := cert.BuildName(sample.ID().Issuer)
	issuer := seq(seq(tree.Cons(2, 4, name)), prim(2, 0x12, 0x34))
	for h := api.Sha224; h <= api.Sha512; h++ {
		x := sample.ID()
		x.Hash, x.Digest = h, bytes.Repeat([]byte{9}, mask.Size(h))
		alg, _ := cert.HashAlg(h, false)
		want := seq(alg, prim(4, x.Digest...), issuer)
		if h == api.Sha256 {
			if back, e := attr.ReadID(want); e != api.ErrAttr || !sameID(back, api.CertID{}) {
				t.Error("a sign that says what goes without saying", e)
			}
			want.Kids = want.Kids[1:]
		}
		got, e := attr.BuildID(x)
		if e != api.OK || !tree.Same(got, want) {
			t.Error(h, got, e)
		}
		if back, e := attr.ReadID(got); e != api.OK || !sameID(back, x) {
			t.Error(h, back, e)
		}
	}
	for i, turn := range []func(x *api.CertID){
		func(x *api.CertID) { *x = api.CertID{} }, func(x *api.CertID) { x.Hash = 0 }, func(x *api.CertID) { x.Hash = 5 }, func(x *api.CertID) { x.Digest = x.Digest[1:] }, func(x *api.CertID) { x.Digest = append(x.Digest, 1) }, func(x *api.CertID) { x.Digest = nil }, func(x *api.CertID) { x.Hash = api.Sha224 },
		func(x *api.CertID) { x.Issuer = nil }, func(x *api.CertID) { x.Issuer = api.Name{{Kind: 4, Text: "a"}} }, func(x *api.CertID) { x.Serial = nil }, func(x *api.CertID) { x.Serial = []byte{0} }, func(x *api.CertID) { x.Serial = []byte{200} }, func(x *api.CertID) { x.Serial = []byte{128} }, func(x *api.CertID) { x.Serial = []byte{0, 1} }, func(x *api.CertID) { x.Serial = bytes.Repeat([]byte{1}, 21) },
	} {
		x := sample.ID()
		turn(&x)
		if got, e := attr.BuildID(x); e != api.ErrAttr || !tree.Same(got, empty) {
			t.Error(i, got, e)
		}
		a := sample.Attrs()
		a.Cert = x
		if _, e := attr.Build(a); (e == api.OK) != (i == 0) {
			t.Error(i, e)
		}
	}
	for i, serial := range [][]byte{{1}, {127}, {0, 128}, bytes.Repeat([]byte{1}, 20)} {
		x := sample.ID()
		x.Serial = serial
		got, _ := attr.BuildID(x)
		if back, e := attr.ReadID(got); e != api.OK || !sameID(back, x) {
			t.Error(i, back, e)
		}
	}
}

func TestBuildExamples(t *testing.T) {
	got, e := attr.Build(api.Attrs{Digest: []byte{1}, Time: api.NoTime})
	if b, _ := der.Encode(got); e != api.OK || hex.EncodeToString(b) != "3112301006092a864886f70d01090431030401"+"01" {
		t.Errorf("%x %v", b, e)
	}
	a := sample.Attrs()
	id, _ := attr.BuildID(a.Cert)
	want := set(append([]api.Node{attribute("messageDigest", prim(4, a.Digest...)), attribute("contentType", prim(6, a.Type...)), attribute("signingCertificateV2", seq(seq(id))), attribute("signingTime", tree.Prim(0, 23, []byte("000229000000Z")))}, a.Others...)...)
	sorted, _ := der.Sorted(want)
	got, e = attr.Build(a)
	if e != api.OK || !tree.Same(got, sorted) || tree.Same(want, sorted) {
		t.Error(got, e)
	}
	a.Time = 2524608000000
	got, e = attr.Build(a)
	want.Kids[3] = attribute("signingTime", tree.Prim(0, 24, []byte("20500101000000Z")))
	sorted, _ = der.Sorted(want)
	if e != api.OK || !tree.Same(got, sorted) {
		t.Error(got, e)
	}
}

// TestMayBe goes through what keeps attributes from being.
func TestMayBe(t *testing.T) {
	others := func(n int) []api.Node {
		var l []api.Node
		for i := range n {
			l = append(l, sample.Other(byte(i)))
		}
		return l
	}
	text := func(id byte, size int) api.Node {
		return seq(prim(6, 0x2a, id), set(tree.Prim(0, 4, make([]byte, size))))
	}
	deep := func(n int) api.Node {
		x := tree.Int(1)
		for range n - 3 {
			x = seq(x)
		}
		return seq(prim(6, 0x2a, 1), set(x))
	}
	wide := func(n int) api.Node {
		x := seq(prim(6, 0x2a, 1), set(seq()))
		for range n - 4 {
			x.Kids[1].Kids[0].Kids = append(x.Kids[1].Kids[0].Kids, tree.Int(1))
		}
		return x
	}
	for i, x := range []struct {
		turn func(a *api.Attrs)
		e    api.Errno
	}{
		{func(a *api.Attrs) {}, api.OK}, {func(a *api.Attrs) { a.Type = nil }, api.OK}, {func(a *api.Attrs) { a.Type = []byte{1} }, api.OK}, {func(a *api.Attrs) { a.Type = []byte{0x80} }, api.ErrAttr}, {func(a *api.Attrs) { a.Type = []byte{0x2a, 0x80, 1} }, api.ErrAttr}, {func(a *api.Attrs) { a.Type = bytes.Repeat([]byte{1}, 30) }, api.OK},
		{func(a *api.Attrs) { a.Digest = nil }, api.ErrAttr}, {func(a *api.Attrs) { a.Digest = []byte{0} }, api.OK}, {func(a *api.Attrs) { a.Digest = make([]byte, 64) }, api.OK}, {func(a *api.Attrs) { a.Digest = make([]byte, 65) }, api.ErrAttr},
		{func(a *api.Attrs) { a.Cert = api.CertID{} }, api.OK}, {func(a *api.Attrs) { a.Cert = api.CertID{Serial: []byte{1}} }, api.ErrAttr}, {func(a *api.Attrs) { a.Cert = api.CertID{Digest: []byte{1}} }, api.ErrAttr}, {func(a *api.Attrs) { a.Cert = api.CertID{Issuer: sample.Name("a")} }, api.ErrAttr}, {func(a *api.Attrs) { a.Cert = api.CertID{Hash: api.Sha256} }, api.ErrAttr}, {func(a *api.Attrs) { a.Cert.Digest = a.Cert.Digest[1:] }, api.ErrAttr},
		{func(a *api.Attrs) { a.Time = api.NoTime }, api.OK}, {func(a *api.Attrs) { a.Time = 0 }, api.OK}, {func(a *api.Attrs) { a.Time = 1 }, api.ErrAttr}, {func(a *api.Attrs) { a.Time = -2 }, api.ErrAttr}, {func(a *api.Attrs) { a.Time = -1000 }, api.ErrAttr}, {func(a *api.Attrs) { a.Time = api.MaxTime }, api.ErrAttr}, {func(a *api.Attrs) { a.Time = api.MaxTime - 999 }, api.OK}, {func(a *api.Attrs) { a.Time = api.MaxTime + 1 }, api.ErrAttr}, {func(a *api.Attrs) { a.Time = math.MinInt64 }, api.ErrAttr},
		{func(a *api.Attrs) { a.Others = nil }, api.OK}, {func(a *api.Attrs) { a.Others = others(20) }, api.OK}, {func(a *api.Attrs) { a.Others = others(21) }, api.ErrAttr}, {func(a *api.Attrs) { slices.Reverse(a.Others) }, api.ErrAttr}, {func(a *api.Attrs) { a.Others[1] = a.Others[0] }, api.ErrAttr}, {func(a *api.Attrs) { a.Others[1] = seq(prim(6, 0x2a, 3), set(tree.Int(100))) }, api.ErrAttr},
		{func(a *api.Attrs) {
			a.Others = []api.Node{sample.Other(3), text(1, 9), seq(prim(6, 0x2a, 3), set(tree.Int(300), prim(4, 1, 2, 3)))}
		}, api.ErrAttr},
		{func(a *api.Attrs) { a.Others[0] = tree.Int(1) }, api.ErrAttr}, {func(a *api.Attrs) { a.Others[0] = empty }, api.ErrAttr}, {func(a *api.Attrs) { a.Others[0].Kids = a.Others[0].Kids[:1] }, api.ErrAttr}, {func(a *api.Attrs) { a.Others[1].Kids = append(a.Others[1].Kids, tree.Int(1)) }, api.ErrAttr}, {func(a *api.Attrs) { a.Others[0].Kids[1].Kids = nil }, api.ErrAttr}, {func(a *api.Attrs) { a.Others[0].Kids[1].Tag = 16 }, api.ErrAttr}, {func(a *api.Attrs) { a.Others[0].Class = 2 }, api.ErrAttr}, {func(a *api.Attrs) { a.Others[0].Kids[1].Class = 2 }, api.ErrAttr}, {func(a *api.Attrs) { a.Others[0].Kids[0].Tag = 4 }, api.ErrAttr}, {func(a *api.Attrs) { a.Others[0].Tag = 17 }, api.ErrAttr},
		{func(a *api.Attrs) { a.Others[1].Kids[1].Kids = []api.Node{tree.Int(6), tree.Int(5)} }, api.ErrAttr}, {func(a *api.Attrs) { a.Others[1].Kids[1].Kids = []api.Node{tree.Int(5), tree.Int(6)} }, api.OK}, {func(a *api.Attrs) { a.Others[1].Kids[1].Kids = []api.Node{tree.Int(5), tree.Int(5)} }, api.OK}, {func(a *api.Attrs) { a.Others[1].Kids[1].Kids[0].Bytes = nil }, api.ErrAttr},
		{func(a *api.Attrs) { a.Others = []api.Node{attribute("contentType", tree.Int(1))} }, api.ErrAttr}, {func(a *api.Attrs) { a.Others = []api.Node{attribute("messageDigest", tree.Int(1))} }, api.ErrAttr}, {func(a *api.Attrs) { a.Others = []api.Node{attribute("signingTime", tree.Int(1))} }, api.ErrAttr}, {func(a *api.Attrs) { a.Others = []api.Node{attribute("signingCertificateV2", tree.Int(1))} }, api.ErrAttr}, {func(a *api.Attrs) { a.Others = []api.Node{attribute("countersignature", tree.Int(1))} }, api.OK}, {func(a *api.Attrs) { a.Time, a.Others = api.NoTime, []api.Node{attribute("signingTime", tree.Int(1))} }, api.ErrAttr},
		{func(a *api.Attrs) { a.Others = []api.Node{text(1, 65000)} }, api.OK}, {func(a *api.Attrs) { a.Others = []api.Node{text(1, 65500)} }, api.ErrLong}, {func(a *api.Attrs) { a.Others = []api.Node{text(1, 66000)} }, api.ErrAttr}, {func(a *api.Attrs) { a.Others = []api.Node{text(1, 40000), text(2, 40000)} }, api.ErrLong}, {func(a *api.Attrs) { a.Digest, a.Others = nil, []api.Node{text(1, 40000), text(2, 40000)} }, api.ErrAttr},
		{func(a *api.Attrs) { a.Others = []api.Node{deep(23)} }, api.OK}, {func(a *api.Attrs) { a.Others = []api.Node{deep(24)} }, api.ErrAttr}, {func(a *api.Attrs) { a.Others = []api.Node{deep(25)} }, api.ErrAttr}, {func(a *api.Attrs) {
			*a = api.Attrs{Digest: []byte{1}, Time: api.NoTime, Others: []api.Node{wide(3995)}}
		}, api.OK}, {func(a *api.Attrs) {
			*a = api.Attrs{Digest: []byte{1}, Time: api.NoTime, Others: []api.Node{wide(3996)}}
		}, api.ErrAttr},
	} {
		a := sample.Attrs()
		x.turn(&a)
		got, e := attr.Build(a)
		if e != x.e || e != api.OK && !tree.Same(got, empty) {
			t.Error(i, e)
		}
		if e != api.OK {
			continue
		}
		if _, e := der.Encode(got); e != api.OK {
			t.Error(i, e)
		}
		if back, e := attr.Read(got); e != api.OK || !same(back, a) {
			t.Error(i, back, e)
		}
	}
}

// TestRead turns trees of attributes, and reads them; none is read but those that are built so.
func TestRead(t *testing.T) {
	r := rand.New(rand.NewSource(1))
	others := 0
	for range 300 {
		a := sample.Attrs()
		a.Others = nil
		for n := byte(0); n < 5; n++ {
			if r.Intn(3) == 0 {
				a.Others = append(a.Others, sample.Other(n))
			}
		}
		for i, drop := range []func(){func() { a.Type = nil }, func() { a.Cert = api.CertID{} }, func() { a.Time = api.NoTime }, func() { a.Time = 1000 * r.Int63n(api.MaxTime/1000) }, func() { a.Cert.Hash, a.Cert.Digest = api.Sha512, make([]byte, 64) }} {
			if r.Intn(4) == i%4 {
				drop()
			}
		}
		if a.Cert.Hash == api.Sha512 && a.Cert.Issuer == nil {
			a.Cert = api.CertID{}
		}
		x, e := attr.Build(a)
		if e != api.OK {
			t.Fatal(a, e)
		}
		if back, e := attr.Read(x); e != api.OK || !same(back, a) {
			t.Fatal(a, back, e)
		}
		for range 40 {
			turned := sample.Turned(r.Intn, x)
			if r.Intn(2) == 0 {
				turned, _ = der.Sorted(turned)
			}
			back, e := attr.Read(turned)
			if e != api.OK {
				if e != api.ErrAttr || !same(back, api.Attrs{}) {
					t.Fatal(turned, back, e)
				}
				continue
			}
			others++
			if again, e := attr.Build(back); e != api.OK || !tree.Same(again, turned) || same(back, a) != tree.Same(turned, x) {
				t.Fatal(turned, back, e)
			}
		}
	}
	if others < 100 {
		t.Error("few that are read", others)
	}
	id, _ := attr.BuildID(sample.ID())
	digest := attribute("messageDigest", prim(4, 1))
	for i, x := range []api.Node{
		empty, set(), tree.Int(1), seq(digest), tree.Cons(2, 0, digest), set(digest, digest), set(attribute("messageDigest", prim(4, 1), prim(4, 2))), set(attribute("messageDigest")), set(seq(digest.Kids[0])), set(seq(digest.Kids[0], digest.Kids[1], digest.Kids[1])), set(attribute("messageDigest", prim(12, 'a'))), set(attribute("messageDigest", prim(4))),
		set(attribute("contentType", prim(6, 0x2a)), digest, attribute("contentType", prim(6, 0x2a))), set(attribute("contentType", prim(4, 0x2a)), digest), set(attribute("signingTime", tree.Prim(0, 24, []byte("20000229000000Z"))), digest), set(attribute("signingTime", tree.Prim(0, 24, []byte("20600229000000.5Z"))), digest), set(attribute("signingTime", tree.Prim(0, 23, []byte("600101000000Z"))), digest), set(attribute("signingTime", tree.Int(5)), digest),
		set(attribute("signingCertificateV2", seq(id)), digest), set(attribute("signingCertificateV2", id), digest), set(attribute("signingCertificateV2", seq(seq(id, id))), digest), set(attribute("signingCertificateV2", seq(seq(id), tree.Int(1))), digest), set(attribute("signingCertificateV2", seq(seq())), digest),
	} {
		for _, y := range []api.Node{x, sorted(x)} {
			if back, e := attr.Read(y); e != api.ErrAttr || !same(back, api.Attrs{}) {
				t.Error(i, back, e)
			}
		}
	}
	unordered := set(sample.Other(5), sample.Other(3), digest)
	if back, e := attr.Read(unordered); e != api.ErrAttr || !same(back, api.Attrs{}) {
		t.Error(back, e)
	}
	if back, e := attr.Read(sorted(unordered)); e != api.OK || len(back.Others) != 2 {
		t.Error(back, e)
	}
	if back, e := attr.ReadID(empty); e != api.ErrAttr || !sameID(back, api.CertID{}) {
		t.Error(back, e)
	}
	for range 3000 {
		turned := sample.Turned(r.Intn, id)
		back, e := attr.ReadID(turned)
		if again, f := attr.BuildID(back); e == api.OK && (f != api.OK || !tree.Same(again, turned)) || e != api.OK && (e != api.ErrAttr || !sameID(back, api.CertID{})) {
			t.Fatal(turned, back, e)
		}
	}
}

func sorted(t api.Node) api.Node {
	s, _ := der.Sorted(t)
	return s
}

func TestSignAndOf(t *testing.T) {
	c := sample.Cert(sample.Small())
	x, _ := cert.Build(c)
	b, _ := der.Encode(x)
	for h := api.Sha224; h <= api.Sha512; h++ {
		digest, _ := mask.Sum(h, b)
		want := api.CertID{Hash: h, Digest: digest, Issuer: c.Issuer, Serial: c.Serial}
		got, e := attr.Sign(c, h)
		if e != api.OK || !sameID(got, want) || !attr.Of(got, c) {
			t.Error(h, got, e)
		}
		for i, turn := range []func(x *api.CertID){func(x *api.CertID) { x.Digest[3] ^= 1 }, func(x *api.CertID) { x.Issuer = sample.Name("another") }, func(x *api.CertID) { x.Serial = []byte{1} }, func(x *api.CertID) { x.Hash = h%4 + 1 }, func(x *api.CertID) { x.Hash = 0 }, func(x *api.CertID) { x.Hash = 9 }, func(x *api.CertID) { x.Digest = nil }, func(x *api.CertID) { *x = api.CertID{} }} {
			wrong, _ := attr.Sign(c, h)
			turn(&wrong)
			if attr.Of(wrong, c) {
				t.Error(h, i)
			}
		}
		for i, turn := range []func(c *api.Cert){func(c *api.Cert) { c.Issuer = sample.Name("another") }, func(c *api.Cert) { c.Serial = []byte{1} }, func(c *api.Cert) { c.Sig = nil }, func(c *api.Cert) { c.From += 1000 }, func(c *api.Cert) { c.From++ }, func(c *api.Cert) { c.Exts = nil }} {
			other := sample.Cert(sample.Small())
			turn(&other)
			if attr.Of(got, other) {
				t.Error(h, i)
			}
		}
	}
	broken := sample.Cert(sample.Small())
	broken.Serial = nil
	long := sample.Cert(sample.Small())
	long.Sig = make([]byte, 70000)
	for i, y := range []struct {
		c api.Cert
		h api.Hash
		e api.Errno
	}{{c, 0, api.ErrAttr}, {c, 5, api.ErrAttr}, {broken, 0, api.ErrAttr}, {broken, api.Sha256, api.ErrCert}, {long, api.Sha256, api.ErrLong}, {long, -1, api.ErrAttr}} {
		if got, e := attr.Sign(y.c, y.h); e != y.e || !sameID(got, api.CertID{}) {
			t.Error(i, got, e)
		}
	}
}

func TestMemory(t *testing.T) {
	a := sample.Attrs()
	x, _ := attr.Build(a)
	kept := tree.Copy(x)
	back, _ := attr.Read(x)
	id, _ := attr.BuildID(a.Cert)
	keptID := tree.Copy(id)
	backID, _ := attr.ReadID(id)
	for _, b := range [][]byte{back.Type, back.Digest, back.Cert.Digest, back.Cert.Serial, back.Others[0].Kids[0].Bytes, back.Others[1].Kids[1].Kids[0].Bytes, backID.Digest, backID.Serial} {
		clear(b[:cap(b)])
	}
	back.Others[0].Kids[1].Tag = 9
	if !tree.Same(x, kept) || !tree.Same(id, keptID) {
		t.Error("what is read shares memory with its tree")
	}
	for i := range x.Kids {
		clear(x.Kids[i].Kids[0].Bytes)
		clear(x.Kids[i].Kids[1].Kids[0].Bytes)
	}
	if !same(a, sample.Attrs()) {
		t.Error("what is built shares memory with its attributes")
	}
	c := sample.Cert(sample.Small())
	sign, _ := attr.Sign(c, api.Sha256)
	sign.Issuer[0].Text = strings.Repeat("x", 3)
	clear(sign.Serial)
	if c.Issuer[0].Text != "CH" || c.Serial[0] != 0x12 {
		t.Error(c.Issuer, c.Serial)
	}
}
