package cert_test

import (
	"bytes"
	"crypto/x509"
	"encoding/hex"
	"math"
	"math/big"
	"math/rand"
	"strings"
	"testing"
	"time"

	"postmark/api"
	"postmark/cert"
	"postmark/der"
	"postmark/mask"
	"postmark/oid"
	"postmark/rsa"
	"postmark/sample"
	"postmark/strict"
	"postmark/tree"
)

var (
	ways   = []api.Way{api.Pkcs, api.Pss}
	hashes = []api.Hash{api.Sha224, api.Sha256, api.Sha384, api.Sha512}
	empty  = api.Node{}
)

// digits is the DER of a tree, in hexadecimal digits.
func digits(t api.Node) string {
	b, _ := der.Encode(t)
	return hex.EncodeToString(b)
}

// from is the tree of digits.
func from(t *testing.T, s string) api.Node {
	t.Helper()
	x, e := strict.Read(sample.Bytes(strings.ReplaceAll(s, " ", "")))
	if e != api.OK {
		t.Fatal(s)
	}
	return x
}

func TestHashAlg(t *testing.T) {
	for i, h := range hashes {
		last := []string{"04", "01", "02", "03"}[i]
		for _, null := range []bool{true, false} {
			want := "300b06096086480165030402" + last
			if null {
				want = "300d06096086480165030402" + last + "0500"
			}
			x, e := cert.HashAlg(h, null)
			if e != api.OK || digits(x) != want {
				t.Error(h, null, digits(x), e)
			}
			if back, n, e := cert.ReadHashAlg(x); back != h || n != null || e != api.OK {
				t.Error(h, null, back, n, e)
			}
		}
	}
	for _, h := range []api.Hash{0, 5, -1, math.MaxInt} {
		if x, e := cert.HashAlg(h, true); e != api.ErrCert || !tree.Same(x, empty) {
			t.Error(h, x, e)
		}
	}
	for _, s := range []string{"3000", "0500", "3004 06022a03", "300f 0609 608648016503040201 0500 0500", "300e 0609 608648016503040201 020105", "310b 0609 608648016503040201", "a00b 0609 608648016503040201", "300b 0409 608648016503040201", "300b 0609 2a864886f70d010101", "300d 0500 0609 608648016503040201"} {
		x, e := strict.Read(sample.Bytes(strings.ReplaceAll(s, " ", "")))
		if e != api.OK {
			x = empty
		}
		if h, null, e := cert.ReadHashAlg(x); h != 0 || null || e != api.ErrCert {
			t.Error(s, h, null, e)
		}
	}
}

func TestSignAlg(t *testing.T) {
	for i, h := range hashes {
		last := []string{"0e", "0b", "0c", "0d"}[i]
		x, e := cert.SignAlg(api.Pkcs, h)
		if e != api.OK || digits(x) != "300d06092a864886f70d0101"+last+"0500" {
			t.Error(h, digits(x), e)
		}
		hash, _ := cert.HashAlg(h, true)
		x, e = cert.SignAlg(api.Pss, h)
		want := "3041" + "06092a864886f70d01010a" + "3034" + "a00f" + digits(hash) + "a11c301a06092a864886f70d010108" + digits(hash) + "a2030201" + hex.EncodeToString([]byte{byte(mask.Size(h))})
		if e != api.OK || digits(x) != want {
			t.Error(h, digits(x), want, e)
		}
	}
	for _, w := range ways {
		for _, h := range hashes {
			x, _ := cert.SignAlg(w, h)
			if back, hash, e := cert.ReadSignAlg(x); back != w || hash != h || e != api.OK {
				t.Error(w, h, back, hash, e)
			}
		}
	}
	for _, x := range []struct {
		w api.Way
		h api.Hash
	}{{0, api.Sha256}, {3, api.Sha256}, {-1, api.Sha256}, {api.Pkcs, 0}, {api.Pss, 5}, {api.Pss, 0}} {
		if got, e := cert.SignAlg(x.w, x.h); e != api.ErrCert || !tree.Same(got, empty) {
			t.Error(x, got, e)
		}
	}
	pss, _ := cert.SignAlg(api.Pss, api.Sha256)
	other, _ := cert.SignAlg(api.Pss, api.Sha384)
	mixed := tree.Copy(pss)
	mixed.Kids[1].Kids[1] = other.Kids[1].Kids[1]
	salt := tree.Copy(pss)
	salt.Kids[1].Kids[2].Kids[0] = tree.Int(33)
	noNull := tree.Copy(pss)
	noNull.Kids[1].Kids[0].Kids[0].Kids = noNull.Kids[1].Kids[0].Kids[0].Kids[:1]
	short := tree.Copy(pss)
	short.Kids[1].Kids = short.Kids[1].Kids[:2]
	for i, x := range []api.Node{empty, tree.Int(1), mixed, salt, noNull, short, from(t, "300b06092a864886f70d01010b"), from(t, "300d06092a864886f70d0101010500"), from(t, "300d06092a864886f70d01010a0500"), from(t, "300d06096086480165030402010500"), from(t, "3000")} {
		if w, h, e := cert.ReadSignAlg(x); w != 0 || h != 0 || e != api.ErrCert {
			t.Error(i, w, h, e)
		}
	}
}

func TestName(t *testing.T) {
	a := api.Rdn{Kind: api.RdnCommon, Text: "a", Print: true}
	x, e := cert.BuildName(api.Name{a})
	if e != api.OK || digits(x) != "300c310a30080603550403130161" {
		t.Error(digits(x), e)
	}
	x, e = cert.BuildName(api.Name{{Kind: api.RdnCountry, Text: "CH", Print: true}, {Kind: api.RdnOrg, Text: "é"}})
	if e != api.OK || digits(x) != "301a310b3009060355040613024348310b3009060355040a0c02c3a9" {
		t.Error(digits(x), e)
	}
	long := strings.Repeat("x", 64)
	for i, y := range []struct {
		n    api.Name
		fine bool
	}{
		{api.Name{a}, true}, {api.Name{a, a, a, a, a, a, a, a}, true}, {api.Name{{Kind: api.RdnOrg, Text: long}}, true}, {api.Name{{Kind: api.RdnCommon, Text: long, Print: true}}, true}, {api.Name{{Kind: api.RdnCommon, Text: "*@_"}}, true}, {api.Name{{Kind: api.RdnCountry, Text: "()", Print: true}}, true},
		{nil, false}, {api.Name{a, a, a, a, a, a, a, a, a}, false}, {api.Name{{Kind: 0, Text: "a"}}, false}, {api.Name{{Kind: 4, Text: "a"}}, false}, {api.Name{{Kind: -1, Text: "a"}}, false}, {api.Name{{Kind: api.RdnOrg}}, false}, {api.Name{{Kind: api.RdnOrg, Text: long + "x"}}, false}, {api.Name{{Kind: api.RdnCommon, Text: "*", Print: true}}, false}, {api.Name{{Kind: api.RdnCommon, Text: "\xff"}}, false}, {api.Name{{Kind: api.RdnCommon, Text: "é", Print: true}}, false},
		{api.Name{{Kind: api.RdnCountry, Text: "ABC", Print: true}}, false}, {api.Name{{Kind: api.RdnCountry, Text: "A", Print: true}}, false}, {api.Name{{Kind: api.RdnCountry, Text: "AB"}}, false}, {api.Name{a, {Kind: api.RdnCountry, Text: "AB"}}, false}, {api.Name{{Kind: api.RdnCommon, Text: "\xff"}, a}, false},
	} {
		x, e := cert.BuildName(y.n)
		if (e == api.OK) != y.fine || e != api.OK && (e != api.ErrCert || !tree.Same(x, empty)) {
			t.Error(i, x, e)
		}
		if e != api.OK {
			continue
		}
		back, e := cert.ReadName(x)
		if e != api.OK || !sameName(back, y.n) || tree.Check(x) != api.OK {
			t.Error(i, back, e)
		}
	}
	for _, s := range []string{"3000", "0500", "3100", "300c 310a 3008 0603550402 130161", "300c 310a 3008 0603550403 160161", "300c 300a 3008 0603550403 130161", "300c 310a 3108 0603550403 130161", "310c 310a 3008 0603550403 130161", "300e 310c 300a 0603550403 130161 0500", "300e 310c 0500 3008 0603550403 130161", "300b 3109 3007 0603550403 1300", "300c 310a 3008 0603550406 130161", "300d 310b 3009 0603550406 0c024348", "3002 3100", "3004 3102 3000"} {
		if n, e := cert.ReadName(from(t, s)); n != nil || e != api.ErrCert {
			t.Error(s, n, e)
		}
	}
}

func sameName(a, b api.Name) bool {
	if len(a) != len(b) {
		return false
	}
	for i := range a {
		if a[i] != b[i] {
			return false
		}
	}
	return true
}

func TestImprint(t *testing.T) {
	for _, h := range hashes {
		for _, null := range []bool{true, false} {
			x := api.Imprint{Hash: h, Null: null, Digest: bytes.Repeat([]byte{byte(h)}, mask.Size(h))}
			alg, _ := cert.HashAlg(h, null)
			got, e := cert.BuildImprint(x)
			if e != api.OK || !tree.Same(got, tree.Cons(0, 16, alg, tree.Prim(0, 4, x.Digest))) {
				t.Error(h, got, e)
			}
			back, e := cert.ReadImprint(got)
			if e != api.OK || back.Hash != h || back.Null != null || !bytes.Equal(back.Digest, x.Digest) {
				t.Error(h, back, e)
			}
			for i, turn := range []func(x *api.Node){func(x *api.Node) { x.Kids = x.Kids[:1] }, func(x *api.Node) { x.Kids = append(x.Kids, tree.Int(1)) }, func(x *api.Node) { x.Kids[1].Tag = 12 }, func(x *api.Node) { x.Kids[1].Bytes = x.Kids[1].Bytes[1:] }, func(x *api.Node) { x.Tag = 17 }, func(x *api.Node) { x.Kids[0], x.Kids[1] = x.Kids[1], x.Kids[0] }, func(x *api.Node) { *x = empty }} {
				wrong := tree.Copy(got)
				turn(&wrong)
				if back, e := cert.ReadImprint(wrong); e != api.ErrCert || back.Hash != 0 || back.Null || back.Digest != nil {
					t.Error(h, i, back, e)
				}
			}
		}
	}
	for i, x := range []api.Imprint{{}, {Hash: api.Sha256, Digest: make([]byte, 31)}, {Hash: api.Sha256, Digest: make([]byte, 33)}, {Hash: api.Sha256}, {Hash: 5, Digest: make([]byte, 32)}, {Hash: 0}} {
		if got, e := cert.BuildImprint(x); e != api.ErrCert || !tree.Same(got, empty) {
			t.Error(i, got, e)
		}
	}
}

// some is a certificate by chance, which may be.
func some(r *rand.Rand) api.Cert {
	bytesOf := func(size int) []byte {
		b := make([]byte, size)
		r.Read(b)
		return b
	}
	c := sample.Cert(sample.Small())
	c.Serial = bytesOf(1 + r.Intn(20))
	c.Serial[0] = byte(1 + r.Intn(127))
	c.Way, c.Hash = ways[r.Intn(2)], hashes[r.Intn(4)]
	c.From = r.Int63n(api.MaxTime/1000) * 1000
	c.To = c.From + r.Int63n((api.MaxTime-c.From)/1000+1)*1000
	c.Key = api.Key{N: bytesOf(1 + r.Intn(512)), E: bytesOf(1 + r.Intn(9))}
	c.Key.N[0], c.Key.E[0] = byte(1+r.Intn(255)), byte(1+r.Intn(255))
	c.Sig = bytesOf(r.Intn(80))
	c.Exts = nil
	for i := range r.Intn(5) * r.Intn(5) {
		c.Exts = append(c.Exts, api.Ext{Oid: []byte{0x2a, byte(i)}, Critical: r.Intn(2) == 0, Value: bytesOf(r.Intn(9))})
	}
	if r.Intn(2) == 0 {
		c.Issuer = api.Name{{Kind: 1 + r.Intn(2), Text: strings.Repeat("i", 1+r.Intn(64)), Print: r.Intn(2) == 0}}
	}
	return c
}

// same says whether two certificates are, part by part.
func same(a, b api.Cert) bool {
	if len(a.Exts) != len(b.Exts) {
		return false
	}
	for i, x := range a.Exts {
		y := b.Exts[i]
		if !bytes.Equal(x.Oid, y.Oid) || x.Critical != y.Critical || !bytes.Equal(x.Value, y.Value) {
			return false
		}
	}
	return bytes.Equal(a.Serial, b.Serial) && a.Way == b.Way && a.Hash == b.Hash && sameName(a.Issuer, b.Issuer) && a.From == b.From && a.To == b.To && sameName(a.Subject, b.Subject) &&
		bytes.Equal(a.Key.N, b.Key.N) && bytes.Equal(a.Key.E, b.Key.E) && bytes.Equal(a.Key.D, b.Key.D) && bytes.Equal(a.Sig, b.Sig)
}

func TestBuildAndRead(t *testing.T) {
	r := rand.New(rand.NewSource(1))
	others := 0
	for range 300 {
		c := some(r)
		x, e := cert.Build(c)
		if e != api.OK || tree.Check(x) != api.OK {
			t.Fatal(c, e)
		}
		part, e := cert.Part(c)
		alg, _ := cert.SignAlg(c.Way, c.Hash)
		if e != api.OK || len(x.Kids) != 3 || !tree.Same(x.Kids[0], part) || !tree.Same(x.Kids[1], alg) || !tree.Same(x.Kids[2], tree.Prim(0, 3, append([]byte{0}, c.Sig...))) {
			t.Fatal(c, e)
		}
		back, e := cert.Read(x)
		if e != api.OK || !same(back, c) {
			t.Fatal(c, back, e)
		}
		for range 20 {
			turned := sample.Turned(r.Intn, x)
			back, e := cert.Read(turned)
			if e != api.OK {
				if e != api.ErrCert || !same(back, api.Cert{}) {
					t.Fatal(turned, back, e)
				}
				continue
			}
			others++
			if again, e := cert.Build(back); e != api.OK || !tree.Same(again, turned) || same(back, c) != tree.Same(turned, x) {
				t.Fatal(turned, back, e)
			}
		}
	}
	if others < 100 {
		t.Error("few that are read", others)
	}
}

// TestPart holds the signed part against one that is put together by hand.
func TestPart(t *testing.T) {
	seq := func(kids ...api.Node) api.Node { return tree.Cons(api.Universal, api.TagSeq, kids...) }
	prim := func(tag int, s string) api.Node { return tree.Prim(api.Universal, tag, []byte(s)) }
	named := func(name string) api.Node { return tree.Prim(api.Universal, api.TagOid, oid.Named(name)) }
	c := sample.Cert(sample.Small())
	c.Way, c.From, c.To = api.Pss, 951782400000, 2524608000000
	c.Key = api.Key{N: []byte{128, 1}, E: []byte{127}}
	c.Exts = []api.Ext{{Oid: []byte{0x2a, 9}, Value: []byte{1}}, {Oid: []byte{0x2a, 8}, Critical: true}}
	alg, _ := cert.SignAlg(api.Pss, api.Sha256)
	issuer, _ := cert.BuildName(c.Issuer)
	subject, _ := cert.BuildName(c.Subject)
	key := seq(seq(named("rsa"), prim(5, "")), prim(3, "\x00\x30\x08\x02\x03\x00\x80\x01\x02\x01\x7f"))
	times := seq(prim(23, "000229000000Z"), prim(24, "20500101000000Z"))
	exts := tree.Cons(api.Context, 3, seq(seq(prim(6, "\x2a\x09"), prim(4, "\x01")), seq(prim(6, "\x2a\x08"), prim(1, "\xff"), prim(4, ""))))
	want := seq(tree.Cons(api.Context, 0, tree.Int(2)), prim(2, "\x12\x34"), alg, issuer, times, subject, key, exts)
	if got, e := cert.Part(c); e != api.OK || !tree.Same(got, want) {
		t.Error(digits(got), e)
	}
	c.Exts = nil
	want.Kids = want.Kids[:7]
	got, e := cert.Part(c)
	if e != api.OK || !tree.Same(got, want) {
		t.Error(digits(got), e)
	}
	whole, e := cert.Build(c)
	if e != api.OK || !tree.Same(whole, seq(want, alg, prim(3, "\x00\x01\x02\x03"))) {
		t.Error(digits(whole), e)
	}
	c.Key = api.Key{N: []byte{128}, E: []byte{255, 0}}
	want.Kids[6].Kids[1] = prim(3, "\x00\x30\x09\x02\x02\x00\x80\x02\x03\x00\xff\x00")
	if got, e := cert.Part(c); e != api.OK || !tree.Same(got, want) {
		t.Error(digits(got), e)
	}
}

// TestMayBe goes through what keeps a certificate from being.
func TestMayBe(t *testing.T) {
	exts := func(n int) []api.Ext {
		var l []api.Ext
		for i := range n {
			l = append(l, api.Ext{Oid: []byte{0x2a, byte(i)}})
		}
		return l
	}
	top := bytes.Repeat([]byte{0x7f}, 20)
	for i, x := range []struct {
		turn func(c *api.Cert)
		e    api.Errno
	}{
		{func(c *api.Cert) {}, api.OK},
		{func(c *api.Cert) { c.Serial = []byte{1} }, api.OK}, {func(c *api.Cert) { c.Serial = top }, api.OK}, {func(c *api.Cert) { c.Serial = []byte{0, 128} }, api.OK}, {func(c *api.Cert) { c.Serial = append([]byte{1}, top...) }, api.ErrCert}, {func(c *api.Cert) { c.Serial = nil }, api.ErrCert}, {func(c *api.Cert) { c.Serial = []byte{0} }, api.ErrCert}, {func(c *api.Cert) { c.Serial = []byte{128} }, api.ErrCert}, {func(c *api.Cert) { c.Serial = []byte{0, 1} }, api.ErrCert}, {func(c *api.Cert) { c.Serial = []byte{255} }, api.ErrCert},
		{func(c *api.Cert) { c.Way = 0 }, api.ErrCert}, {func(c *api.Cert) { c.Way = 3 }, api.ErrCert}, {func(c *api.Cert) { c.Hash = 0 }, api.ErrCert}, {func(c *api.Cert) { c.Hash = 5 }, api.ErrCert}, {func(c *api.Cert) { c.Way, c.Hash = api.Pss, api.Sha512 }, api.OK},
		{func(c *api.Cert) { c.Issuer = nil }, api.ErrCert}, {func(c *api.Cert) { c.Subject = nil }, api.ErrCert}, {func(c *api.Cert) { c.Subject = api.Name{{Kind: 9, Text: "a"}} }, api.ErrCert},
		{func(c *api.Cert) { c.From = 1 }, api.ErrCert}, {func(c *api.Cert) { c.To++ }, api.ErrCert}, {func(c *api.Cert) { c.From = -1000 }, api.ErrCert}, {func(c *api.Cert) { c.To = api.MaxTime + 1 }, api.ErrCert}, {func(c *api.Cert) { c.To = api.MaxTime - 999 }, api.OK}, {func(c *api.Cert) { c.From = c.To }, api.OK}, {func(c *api.Cert) { c.From = c.To + 1000 }, api.ErrCert}, {func(c *api.Cert) { c.From = 0 }, api.OK}, {func(c *api.Cert) { c.From, c.To = -2000, -1000 }, api.ErrCert},
		{func(c *api.Cert) { c.Key.N = nil }, api.ErrCert}, {func(c *api.Cert) { c.Key.N = []byte{0, 1} }, api.ErrCert}, {func(c *api.Cert) { c.Key.N = bytes.Repeat([]byte{1}, 512) }, api.OK}, {func(c *api.Cert) { c.Key.N = bytes.Repeat([]byte{1}, 513) }, api.ErrCert}, {func(c *api.Cert) { c.Key.E = nil }, api.ErrCert}, {func(c *api.Cert) { c.Key.E = []byte{0} }, api.ErrCert}, {func(c *api.Cert) { c.Key.E = bytes.Repeat([]byte{255}, 512) }, api.OK}, {func(c *api.Cert) { c.Key.E = bytes.Repeat([]byte{255}, 513) }, api.ErrCert}, {func(c *api.Cert) { c.Key.D = []byte{1} }, api.ErrCert}, {func(c *api.Cert) { c.Key.N = []byte{1} }, api.OK},
		{func(c *api.Cert) { c.Exts = nil }, api.OK}, {func(c *api.Cert) { c.Exts = exts(20) }, api.OK}, {func(c *api.Cert) { c.Exts = exts(21) }, api.ErrCert}, {func(c *api.Cert) { c.Exts = append(exts(3), api.Ext{Oid: []byte{0x2a, 1}, Critical: true}) }, api.ErrCert}, {func(c *api.Cert) { c.Exts = []api.Ext{{}} }, api.ErrCert}, {func(c *api.Cert) { c.Exts = []api.Ext{{Oid: []byte{0x80}}} }, api.ErrCert}, {func(c *api.Cert) { c.Exts = append(exts(2), api.Ext{Oid: []byte{0x80, 1}}) }, api.ErrCert},
		{func(c *api.Cert) { c.Sig = nil }, api.OK}, {func(c *api.Cert) { c.Sig = make([]byte, 70000) }, api.ErrLong}, {func(c *api.Cert) { c.Exts = []api.Ext{{Oid: []byte{1}, Value: make([]byte, 70000)}} }, api.ErrLong}, {func(c *api.Cert) { c.Sig, c.Way = make([]byte, 70000), 9 }, api.ErrCert},
	} {
		c := sample.Cert(sample.Small())
		x.turn(&c)
		got, e := cert.Build(c)
		part, f := cert.Part(c)
		if e != x.e || f != x.e || e != api.OK && (!tree.Same(got, empty) || !tree.Same(part, empty)) {
			t.Error(i, e, f)
		}
		if e != api.OK {
			continue
		}
		if back, e := cert.Read(got); e != api.OK || !same(back, c) {
			t.Error(i, back, e)
		}
	}
}

// TestLongest goes to where a certificate's DER is as long as it may be.
func TestLongest(t *testing.T) {
	c := sample.Cert(sample.Small())
	x, _ := cert.Build(c)
	size, _ := der.Size(x)
	room := api.MaxTree - size - 10
	for more := range 30 {
		c.Sig = make([]byte, room+more)
		x, e := cert.Build(c)
		n, f := der.Size(x)
		part, g := cert.Part(c)
		if e != g || e == api.OK && (f != api.OK || n > api.MaxTree || n < api.MaxTree-40) || e != api.OK && (e != api.ErrLong || !tree.Same(part, empty)) {
			t.Error(more, n, e, f, g)
		}
		if more == 0 && e != api.OK || more == 29 && e != api.ErrLong {
			t.Error(more, e)
		}
	}
}

// TestAgainstLibrary lets the library read a certificate that was signed.
func TestAgainstLibrary(t *testing.T) {
	k := sample.Large()
	for _, w := range ways {
		for _, h := range hashes[1:] {
			c := sample.Cert(k)
			c.Way, c.Hash = w, h
			c.From, c.To = 951782400000, 2524608000000 // the first one short, the last one not
			part, _ := cert.Part(c)
			b, _ := der.Encode(part)
			digest, _ := mask.Sum(h, b)
			c.Sig, _ = rsa.Sign(k, w, h, digest, make([]byte, mask.Size(h)))
			x, _ := cert.Build(c)
			whole, _ := der.Encode(x)
			got, err := x509.ParseCertificate(whole)
			if err != nil {
				t.Fatal(w, h, err)
			}
			if err := got.CheckSignature(got.SignatureAlgorithm, got.RawTBSCertificate, got.Signature); err != nil {
				t.Error(w, h, err)
			}
			if got.SerialNumber.Cmp(big.NewInt(0x1234)) != 0 || got.Subject.CommonName != "the authority" || got.Issuer.CommonName != "the issuer" || got.Issuer.Country[0] != "CH" || !got.NotBefore.Equal(time.UnixMilli(c.From)) || !got.NotAfter.Equal(time.UnixMilli(c.To)) || got.Version != 3 || len(got.Extensions) != 2 || !got.Extensions[0].Critical || got.KeyUsage != x509.KeyUsageDigitalSignature || len(got.ExtKeyUsage) != 1 || got.ExtKeyUsage[0] != x509.ExtKeyUsageTimeStamping {
				t.Error(w, h, got)
			}
		}
	}
}

func TestUsage(t *testing.T) {
	usage := func(hex string) api.Ext { return api.Ext{Oid: oid.Named("keyUsage"), Value: sample.Bytes(hex)} }
	other := api.Ext{Oid: oid.Named("basicConstraints"), Value: sample.Bytes("03020780")}
	for i, x := range []struct {
		l      []api.Ext
		number int
		told   bool
	}{
		{[]api.Ext{usage("03020780")}, 1, true}, {[]api.Ext{other, usage("03020640")}, 2, true}, {[]api.Ext{usage("030206c0")}, 3, true}, {[]api.Ext{usage("03020520")}, 4, true}, {[]api.Ext{usage("03020001")}, 128, true}, {[]api.Ext{usage("0303070080")}, 256, true}, {[]api.Ext{usage("030307ff80")}, 511, true}, {[]api.Ext{usage("030100")}, 0, true}, {[]api.Ext{usage("03020780")}, 1, true}, {[]api.Ext{usage("03020080")}, 1, true}, {[]api.Ext{usage("03020700")}, 0, true},
		{nil, 0, false}, {[]api.Ext{other}, 0, false}, {[]api.Ext{usage("")}, 0, false}, {[]api.Ext{usage("0303068000")}, 0, false}, {[]api.Ext{usage("030400000000")}, 0, false}, {[]api.Ext{usage("0302078000")}, 0, false}, {[]api.Ext{usage("03020781")}, 0, false}, {[]api.Ext{usage("03810207" + "80")}, 0, false}, {[]api.Ext{usage("020105")}, 0, false}, {[]api.Ext{usage("04020780")}, 0, false}, {[]api.Ext{usage("83020780")}, 0, false},
	} {
		c := sample.Cert(sample.Small())
		c.Exts = x.l
		if n, told := cert.Usage(c); n != x.number || told != x.told {
			t.Error(i, n, told)
		}
	}
}

func TestStamps(t *testing.T) {
	stamping := sample.Stamping()
	turned := func(turn func(x *api.Ext)) api.Ext {
		x := sample.Stamping()
		turn(&x)
		return x
	}
	usage := func(hex string) api.Ext { return api.Ext{Oid: oid.Named("keyUsage"), Value: sample.Bytes(hex)} }
	for i, x := range []struct {
		l    []api.Ext
		want bool
	}{
		{[]api.Ext{stamping}, true}, {[]api.Ext{usage("03020780"), stamping}, true}, {[]api.Ext{stamping, usage("03020640")}, true}, {[]api.Ext{stamping, usage("030206c0")}, true}, {[]api.Ext{stamping, {Oid: []byte{1}}}, true},
		{nil, false}, {[]api.Ext{usage("03020780")}, false}, {[]api.Ext{turned(func(x *api.Ext) { x.Critical = false })}, false}, {[]api.Ext{turned(func(x *api.Ext) {
			x.Value = sample.Bytes("30140608" + "2b06010505070308" + "0608" + "2b06010505070308")
		})}, false}, {[]api.Ext{turned(func(x *api.Ext) { x.Value = sample.Bytes("300a06082b06010505070303") })}, false}, {[]api.Ext{turned(func(x *api.Ext) { x.Value = sample.Bytes("06082b06010505070308") })}, false}, {[]api.Ext{turned(func(x *api.Ext) { x.Value = append(x.Value, 0) })}, false}, {[]api.Ext{turned(func(x *api.Ext) { x.Value = sample.Bytes("30810a06082b06010505070308") })}, false}, {[]api.Ext{turned(func(x *api.Ext) { x.Value = nil })}, false}, {[]api.Ext{turned(func(x *api.Ext) { x.Oid = oid.Named("keyUsage") })}, false},
		{[]api.Ext{stamping, usage("03020520")}, false}, {[]api.Ext{stamping, usage("030100")}, false}, {[]api.Ext{stamping, usage("030205a0")}, false}, {[]api.Ext{stamping, usage("")}, false}, {[]api.Ext{stamping, usage("0500")}, false}, {[]api.Ext{stamping, usage("0303070080")}, false},
	} {
		c := sample.Cert(sample.Small())
		c.Exts = x.l
		if cert.Stamps(c) != x.want {
			t.Error(i)
		}
	}
}

func TestValid(t *testing.T) {
	c := sample.Cert(sample.Small())
	for i, x := range []struct {
		at   int64
		want bool
	}{{c.From, true}, {c.To, true}, {c.From - 1, false}, {c.To + 1, false}, {c.From + 1, true}, {math.MinInt64, false}, {math.MaxInt64, false}} {
		if cert.Valid(c, x.at) != x.want {
			t.Error(i)
		}
	}
}

func TestReadWrong(t *testing.T) {
	deep := tree.Int(1)
	for range 40 {
		deep = tree.Cons(0, 16, deep, deep)
		if n, _ := tree.Count(deep); n > 5000 {
			break
		}
	}
	for i, x := range []api.Node{empty, tree.Int(1), tree.Cons(0, 16), deep} {
		if c, e := cert.Read(x); e != api.ErrCert || !same(c, api.Cert{}) {
			t.Error(i, e)
		}
		if n, e := cert.ReadName(x); e != api.ErrCert || n != nil {
			t.Error(i, e)
		}
		if _, e := cert.ReadImprint(x); e != api.ErrCert {
			t.Error(i, e)
		}
	}
}

func TestMemory(t *testing.T) {
	c := sample.Cert(sample.Small())
	x, _ := cert.Build(c)
	kept := tree.Copy(x)
	back, _ := cert.Read(x)
	for _, b := range [][]byte{back.Serial, back.Key.N, back.Key.E, back.Sig, back.Exts[0].Oid, back.Exts[0].Value} {
		clear(b[:cap(b)])
	}
	back.Issuer[0].Text = "turned"
	if !tree.Same(x, kept) {
		t.Error("what is read shares memory with its tree")
	}
	part, _ := cert.Part(c)
	again, _ := cert.Build(c)
	clear(part.Kids[1].Bytes)
	clear(x.Kids[2].Bytes)
	clear(x.Kids[0].Kids[7].Kids[0].Kids[0].Kids[2].Bytes)
	if !tree.Same(again, kept) || !same(c, sample.Cert(sample.Small())) {
		t.Error("what is built shares memory with its certificate")
	}
	digest := bytes.Repeat([]byte{5}, 32)
	imprint, _ := cert.BuildImprint(api.Imprint{Hash: api.Sha256, Digest: digest})
	read, _ := cert.ReadImprint(imprint)
	read.Digest[0] = 6
	imprint.Kids[1].Bytes[1] = 7
	if imprint.Kids[1].Bytes[0] != 5 || digest[1] != 5 {
		t.Error(imprint, digest)
	}
}
