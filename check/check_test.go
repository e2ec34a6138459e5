package check_test

import (
	"bytes"
	"math/rand"
	"testing"

	"postmark/api"
	"postmark/attr"
	"postmark/ber"
	"postmark/cert"
	"postmark/check"
	"postmark/cms"
	"postmark/der"
	"postmark/desk"
	"postmark/disk"
	"postmark/mask"
	"postmark/oid"
	"postmark/query"
	"postmark/reply"
	"postmark/sample"
	"postmark/signer"
	"postmark/token"
	"postmark/tree"
)

var salt = bytes.Repeat([]byte{6}, 32)

// whole is a query that asks for all that a desk grants.
func whole() api.Query {
	q := sample.Query()
	q.Policy, q.Nonce, q.Cert = []byte{0x2a, 3}, []byte{0, 129}, true
	return q
}

// stamp is one for that query.
func stamp() api.Tst {
	x := sample.Tst()
	x.Exts, x.Tsa = nil, nil
	return x
}

// made is a token of a stamp, by a seal.
func made(t *testing.T, x api.Tst, s api.Seal) api.Node {
	t.Helper()
	got, e := token.Make(x, s, make([]byte, mask.Size(s.Hash)))
	if e != api.OK {
		t.Fatal(e)
	}
	return got
}

// loose is a token of a stamp in which things were turned ahead of signing, and behind it.
func loose(t *testing.T, x api.Tst, s api.Seal, ahead func(d *api.Cms), behind func(d *api.Cms)) api.Node {
	t.Helper()
	_, d, e := token.Open(made(t, x, s))
	if e != api.OK {
		t.Fatal(e)
	}
	ahead(&d)
	d.Signer, e = signer.Sign(d.Signer, s.Key, make([]byte, mask.Size(s.Hash)))
	if e != api.OK {
		t.Fatal(e)
	}
	behind(&d)
	got, e := cms.Build(d)
	if e != api.OK {
		t.Fatal(e)
	}
	return got
}

func nothing(*api.Cms) {}

// all asks for a token's tree in each way that there is.
func all(t *testing.T, x api.Node, q api.Query, c api.Cert) (api.Tst, api.Errno) {
	t.Helper()
	got, e := check.Look(x, q, c)
	b, _ := der.Encode(x)
	trusted, f := check.Trust(b, q, c)
	answer, _ := reply.Write(reply.Granted(x))
	accepted, g := check.Accept(answer, q, c)
	modified, _ := reply.Write(api.Reply{Status: api.StatusModified, Fail: api.FailNone, Token: x})
	too, h := check.Accept(modified, q, c)
	if e != f || e != g || e != h || !token.Same(got, trusted) || !token.Same(got, accepted) || !token.Same(got, too) {
		t.Error("other answers in other ways", e, f, g, h)
	}
	if e != api.OK && !token.Same(got, api.Tst{}) {
		t.Error("a stamp beside an error", e)
	}
	return got, e
}

func TestAccepted(t *testing.T) {
	k := sample.Large()
	for _, way := range []api.Way{api.Pkcs, api.Pss} {
		for h := api.Sha224; h <= api.Sha512; h++ {
			s := sample.Seal(k)
			s.Way, s.Hash = way, h
			if got, e := all(t, made(t, stamp(), s), whole(), s.Cert); e != api.OK || !token.Same(got, stamp()) {
				t.Error(way, h, e)
			}
		}
	}
	s := sample.Seal(sample.Small())
	for i, turn := range []func(q *api.Query, x *api.Tst, s *api.Seal){
		func(q *api.Query, x *api.Tst, s *api.Seal) { q.Policy = nil }, func(q *api.Query, x *api.Tst, s *api.Seal) { q.Cert, s.With = false, false }, func(q *api.Query, x *api.Tst, s *api.Seal) { q.Cert = false }, func(q *api.Query, x *api.Tst, s *api.Seal) { q.Nonce, x.Nonce = nil, nil }, func(q *api.Query, x *api.Tst, s *api.Seal) { q.Imprint.Null = false }, func(q *api.Query, x *api.Tst, s *api.Seal) { q.Exts = []api.Ext{{}, {}} }, func(q *api.Query, x *api.Tst, s *api.Seal) { x.Exts, x.Tsa = sample.Tst().Exts, sample.Tst().Tsa }, func(q *api.Query, x *api.Tst, s *api.Seal) { x.Time = s.Cert.From }, func(q *api.Query, x *api.Tst, s *api.Seal) { x.Time = s.Cert.To }, func(q *api.Query, x *api.Tst, s *api.Seal) { s.Cert.Exts = s.Cert.Exts[:1] },
	} {
		q, x, y := whole(), stamp(), sample.Seal(s.Key)
		turn(&q, &x, &y)
		if got, e := all(t, made(t, x, y), q, y.Cert); e != api.OK || !token.Same(got, x) {
			t.Error(i, e)
		}
	}
}

// TestRows breaks each row by itself, and together with all the rows behind it.
func TestRows(t *testing.T) {
	s := sample.Seal(sample.Small())
	good := made(t, stamp(), s)
	another := sample.Query()
	another.Imprint.Digest[0] ^= 1
	another.Policy, another.Nonce = []byte{0x2a, 4}, []byte{5}
	wrongSig := func(d *api.Cms) { d.Signer.Sig[7] ^= 1 }
	untied := func(d *api.Cms) { d.Signer.Attrs.Digest[7] ^= 1 }
	both := func(f, g func(d *api.Cms)) func(d *api.Cms) {
		return func(d *api.Cms) { f(d); g(d) }
	}
	for i, x := range []struct {
		t    api.Node
		turn func(q *api.Query, c *api.Cert)
		e    api.Errno
	}{
		{good, func(q *api.Query, c *api.Cert) {}, api.OK},
		{good, func(q *api.Query, c *api.Cert) { c.Serial = nil }, api.ErrSource}, {good, func(q *api.Query, c *api.Cert) { *c = api.Cert{} }, api.ErrSource}, {good, func(q *api.Query, c *api.Cert) { c.Key.D = []byte{1} }, api.ErrSource}, {good, func(q *api.Query, c *api.Cert) { c.Sig = make([]byte, 70000) }, api.ErrSource}, {good, func(q *api.Query, c *api.Cert) { c.Exts = nil }, api.ErrSource}, {good, func(q *api.Query, c *api.Cert) { c.Serial = []byte{1} }, api.ErrSource}, {good, func(q *api.Query, c *api.Cert) { c.Issuer = sample.Name("b") }, api.ErrSource}, {good, func(q *api.Query, c *api.Cert) { c.Sig = nil }, api.ErrSource}, {good, func(q *api.Query, c *api.Cert) { c.From += 1000 }, api.ErrSource},
		{loose(t, stamp(), s, func(d *api.Cms) { d.Signer.Serial = []byte{1} }, nothing), func(q *api.Query, c *api.Cert) {}, api.ErrSource}, {loose(t, stamp(), s, func(d *api.Cms) { d.Signer.Issuer = sample.Name("b") }, nothing), func(q *api.Query, c *api.Cert) {}, api.ErrSource}, {loose(t, stamp(), s, func(d *api.Cms) { d.Signer.Attrs.Cert = api.CertID{} }, nothing), func(q *api.Query, c *api.Cert) {}, api.ErrSource}, {loose(t, stamp(), s, func(d *api.Cms) { d.Signer.Attrs.Cert = sample.ID() }, nothing), func(q *api.Query, c *api.Cert) {}, api.ErrSource},
		{loose(t, stamp(), s, func(d *api.Cms) { d.Certs = nil }, nothing), func(q *api.Query, c *api.Cert) {}, api.ErrSource}, {loose(t, stamp(), s, func(d *api.Cms) { d.Certs = sample.Cms().Certs }, nothing), func(q *api.Query, c *api.Cert) {}, api.ErrSource}, {loose(t, stamp(), s, func(d *api.Cms) { d.Certs = append(sample.Cms().Certs, d.Certs...) }, nothing), func(q *api.Query, c *api.Cert) {}, api.OK}, {loose(t, stamp(), s, func(d *api.Cms) { d.Certs = nil }, nothing), func(q *api.Query, c *api.Cert) { q.Cert = false }, api.OK},
		{loose(t, stamp(), s, untied, nothing), func(q *api.Query, c *api.Cert) {}, api.ErrDigest}, {loose(t, stamp(), s, func(d *api.Cms) { d.Signer.Attrs.Type = nil }, nothing), func(q *api.Query, c *api.Cert) {}, api.ErrDigest}, {loose(t, stamp(), s, func(d *api.Cms) { d.Signer.Attrs.Type = oid.Named("data") }, nothing), func(q *api.Query, c *api.Cert) {}, api.ErrDigest},
		{loose(t, stamp(), s, nothing, wrongSig), func(q *api.Query, c *api.Cert) {}, api.ErrSeal}, {loose(t, stamp(), s, nothing, func(d *api.Cms) { d.Signer.Sig = nil }), func(q *api.Query, c *api.Cert) {}, api.ErrSeal}, {loose(t, stamp(), s, nothing, func(d *api.Cms) { d.Signer.Attrs.Time = 5000 }), func(q *api.Query, c *api.Cert) {}, api.ErrSeal}, {loose(t, stamp(), s, func(d *api.Cms) { d.Signer.Attrs.Time = 5000 }, nothing), func(q *api.Query, c *api.Cert) {}, api.OK}, {loose(t, stamp(), s, nothing, func(d *api.Cms) { d.Signer.Way = api.Pkcs }), func(q *api.Query, c *api.Cert) {}, api.ErrSeal}, {loose(t, stamp(), s, nothing, func(d *api.Cms) { d.Signer.Unsigned = []api.Node{sample.Other(1)} }), func(q *api.Query, c *api.Cert) {}, api.OK},
		{good, func(q *api.Query, c *api.Cert) { q.Imprint.Digest[31] ^= 1 }, api.ErrImprint}, {good, func(q *api.Query, c *api.Cert) { q.Imprint.Hash = api.Sha512 }, api.ErrImprint}, {good, func(q *api.Query, c *api.Cert) { q.Imprint = api.Imprint{} }, api.ErrImprint},
		{good, func(q *api.Query, c *api.Cert) { q.Policy = []byte{0x2a, 4} }, api.ErrPolicy}, {good, func(q *api.Query, c *api.Cert) { q.Policy = []byte{0x80} }, api.ErrPolicy},
		{good, func(q *api.Query, c *api.Cert) { q.Nonce = nil }, api.ErrNonce}, {good, func(q *api.Query, c *api.Cert) { q.Nonce = []byte{129} }, api.ErrNonce}, {good, func(q *api.Query, c *api.Cert) { q.Policy, q.Nonce = nil, []byte{1} }, api.ErrNonce},
		{loose(t, stamp(), s, both(untied, func(d *api.Cms) { d.Certs = nil }), wrongSig), func(q *api.Query, c *api.Cert) { *q = another; q.Cert = true }, api.ErrSource}, {loose(t, stamp(), s, untied, wrongSig), func(q *api.Query, c *api.Cert) { *q = another }, api.ErrDigest}, {loose(t, stamp(), s, nothing, wrongSig), func(q *api.Query, c *api.Cert) { *q = another }, api.ErrSeal}, {good, func(q *api.Query, c *api.Cert) { *q = another }, api.ErrImprint}, {good, func(q *api.Query, c *api.Cert) { q.Policy, q.Nonce = another.Policy, another.Nonce }, api.ErrPolicy},
		{good.Kids[1].Kids[0], func(q *api.Query, c *api.Cert) { *q, *c = another, api.Cert{} }, api.ErrContent}, {tree.Cons(0, 16), func(q *api.Query, c *api.Cert) {}, api.ErrContent},
	} {
		q, c := whole(), sample.Cert(sample.Small())
		x.turn(&q, &c)
		got, e := all(t, x.t, q, c)
		if e != x.e || e == api.OK && !token.Same(got, stamp()) {
			t.Error(i, e)
		}
	}
}

// TestTimes: a stamp outside the certificate's times is not of it.
func TestTimes(t *testing.T) {
	for _, x := range []struct {
		at int64
		e  api.Errno
	}{{sample.From - 1, api.ErrSource}, {sample.From, api.OK}, {sample.To, api.OK}, {sample.To + 1, api.ErrSource}, {0, api.ErrSource}, {api.MaxTime, api.ErrSource}} {
		s, y := sample.Seal(sample.Small()), stamp()
		y.Time = x.at
		if _, e := all(t, made(t, y, s), whole(), s.Cert); e != x.e {
			t.Error(x.at, e)
		}
	}
}

// TestKeys: a certificate whose key may not be public, or is another one than the one that signed.
func TestKeys(t *testing.T) {
	k := sample.Small()
	for i, x := range []struct {
		key api.Key
		e   api.Errno
	}{{api.Key{N: k.N, E: k.E}, api.OK}, {api.Key{N: k.N, E: []byte{4}}, api.ErrSource}, {api.Key{N: []byte{7}, E: []byte{3}}, api.ErrSource}, {api.Key{N: sample.Large().N, E: k.E}, api.ErrSeal}, {api.Key{N: k.N, E: []byte{3}}, api.ErrSeal}} {
		s := sample.Seal(k)
		s.Cert.Key = x.key
		if _, e := all(t, made(t, stamp(), s), whole(), s.Cert); e != x.e {
			t.Error(i, e)
		}
	}
}

func TestFormatAndStatus(t *testing.T) {
	c := sample.Cert(sample.Small())
	write := func(r api.Reply) []byte {
		b, e := reply.Write(r)
		if e != api.OK {
			t.Fatal(e)
		}
		return b
	}
	good, _ := der.Encode(made(t, stamp(), sample.Seal(sample.Small())))
	for i, x := range []struct {
		b             []byte
		accept, trust api.Errno
	}{
		{nil, api.ErrFormat, api.ErrFormat}, {[]byte{0x30}, api.ErrFormat, api.ErrFormat}, {make([]byte, 70000), api.ErrFormat, api.ErrFormat}, {[]byte{2, 1, 5}, api.ErrFormat, api.ErrContent}, {write(reply.Refused(api.FailData)), api.ErrStatus, api.ErrContent}, {write(api.Reply{Status: 3, Fail: -1}), api.ErrStatus, api.ErrContent}, {write(api.Reply{Status: 5, Fail: -1, Text: []string{"a"}}), api.ErrStatus, api.ErrContent}, {write(reply.Granted(tree.Cons(0, 16))), api.ErrContent, api.ErrContent}, {good, api.ErrFormat, api.OK}, {append(bytes.Clone(good), 0), api.ErrFormat, api.ErrFormat}, {good[:len(good)-1], api.ErrFormat, api.ErrFormat},
	} {
		if got, e := check.Accept(x.b, whole(), c); e != x.accept || !token.Same(got, api.Tst{}) {
			t.Error(i, e)
		}
		if got, e := check.Trust(x.b, whole(), c); e != x.trust || (e == api.OK) != token.Same(got, stamp()) {
			t.Error(i, e)
		}
	}
}

func TestReason(t *testing.T) {
	want := []string{"format", "status", "content", "source", "digest", "seal", "imprint", "policy", "nonce"}
	for e := api.Errno(-5); e < 400; e++ {
		name := ""
		if e >= api.ErrFormat && e <= api.ErrNonce {
			name = want[e-api.ErrFormat]
		}
		if s := check.Reason(e); s != name {
			t.Error(int(e), s)
		}
	}
}

// TestBer: in whatever BER bytes come, they are looked at alike.
func TestBer(t *testing.T) {
	r := rand.New(rand.NewSource(1))
	s := sample.Seal(sample.Small())
	good := made(t, stamp(), s)
	answer, _ := reply.Build(reply.Granted(good))
	for range 200 {
		way := make([]byte, r.Intn(300))
		r.Read(way)
		q := whole()
		want := api.OK
		if r.Intn(2) == 0 {
			q.Nonce, want = nil, api.ErrNonce
		}
		b, e := ber.Write(good, way)
		c, f := ber.Write(answer, way)
		if e != api.OK || f != api.OK {
			t.Fatal(e, f)
		}
		trusted, e := check.Trust(b, q, s.Cert)
		accepted, f := check.Accept(c, q, s.Cert)
		if e != want || f != want || want == api.OK && (!token.Same(trusted, stamp()) || !token.Same(accepted, stamp())) {
			t.Fatal(e, f)
		}
	}
}

// TestWhatFollows accepts what a desk grants, for the request for which it is granted, and for no other one.
func TestWhatFollows(t *testing.T) {
	r := rand.New(rand.NewSource(2))
	o := sample.Office(sample.Small())
	d, _ := disk.New(2, 200)
	x, e := desk.New(o, d)
	if e != api.OK {
		t.Fatal(e)
	}
	for range 60 {
		q := sample.Query()
		q.Imprint.Null = r.Intn(2) == 0
		if r.Intn(2) == 0 {
			q.Policy = []byte{0x2a, 4}
		}
		if r.Intn(2) == 0 {
			q.Nonce = []byte{byte(1 + r.Intn(100)), byte(r.Intn(256))}
		}
		q.Cert = r.Intn(2) == 0
		b, _ := query.Write(q)
		clock := sample.From + r.Int63n(1000000)
		answer := x.Ask(b, clock, salt)
		got, e := check.Accept(answer, q, o.Seal.Cert)
		if serial, at := x.Last(); e != api.OK || got.Time != at || !bytes.Equal(got.Serial, tree.Int(serial).Bytes) || !bytes.Equal(got.Nonce, q.Nonce) {
			t.Fatal(e)
		}
		for i, y := range []struct {
			turn func(q *api.Query)
			e    api.Errno
		}{{func(q *api.Query) { q.Imprint.Digest = bytes.Repeat([]byte{1}, 32) }, api.ErrImprint}, {func(q *api.Query) { q.Imprint.Hash = api.Sha224 }, api.ErrImprint}, {func(q *api.Query) { q.Policy = []byte{0x2a, 9} }, api.ErrPolicy}, {func(q *api.Query) { q.Nonce = []byte{0} }, api.ErrNonce}} {
			other := q
			y.turn(&other)
			if _, e := check.Accept(answer, other, o.Seal.Cert); e != y.e {
				t.Fatal(i, e)
			}
		}
	}
}

func TestMemory(t *testing.T) {
	s := sample.Seal(sample.Small())
	good := made(t, stamp(), s)
	kept := tree.Copy(good)
	q, c := whole(), s.Cert
	got, _ := check.Look(good, q, c)
	for _, b := range [][]byte{got.Policy, got.Imprint.Digest, got.Serial, got.Nonce} {
		clear(b)
	}
	id, _ := attr.Sign(c, api.Sha256)
	own, _ := cert.Build(c)
	same, _ := cert.Build(sample.Cert(sample.Small()))
	if !tree.Same(good, kept) || !bytes.Equal(q.Nonce, whole().Nonce) || !bytes.Equal(q.Policy, whole().Policy) || !attr.Of(id, c) || !tree.Same(own, same) {
		t.Error("what was handed in is turned")
	}
}
