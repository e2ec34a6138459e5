package whole_test

import (
	"bytes"
	"math/big"
	"math/rand"
	"testing"

	"postmark/api"
	"postmark/attr"
	"postmark/ber"
	"postmark/cert"
	"postmark/check"
	"postmark/der"
	"postmark/desk"
	"postmark/disk"
	"postmark/mask"
	"postmark/oid"
	"postmark/pss"
	"postmark/query"
	"postmark/reply"
	"postmark/sample"
	"postmark/token"
	"postmark/tree"
)

// TestTokens is P0.2: what offices grant is accepted within the certificate's times for the request for which it was granted, and for no other one.
func TestTokens(t *testing.T) {
	r := rand.New(rand.NewSource(2))
	granted, outside := 0, 0
	for range 30 {
		o := someOffice(r)
		o.First = r.Int63n(1000)
		o.Seal.Cert.From, o.Seal.Cert.To = 20000, 80000
		d, _ := disk.New(2, 100)
		x, e := desk.New(o, d)
		if e != api.OK {
			t.Fatal(e)
		}
		for range 8 {
			q, clock := someQuery(r), r.Int63n(100000)
			b, _ := query.Write(q)
			answer := x.Ask(b, clock, nil)
			got, e := check.Accept(answer, q, o.Seal.Cert)
			_, at := x.Last()
			switch _, fail := query.Judge(b, o.Hashes, o.Policies); {
			case fail != api.FailNone:
				if e != api.ErrStatus {
					t.Fatal(fail, e)
				}
				continue
			case at < o.Seal.Cert.From || at > o.Seal.Cert.To:
				if e != api.ErrSource {
					t.Fatal(at, e)
				}
				outside++
				continue
			case e != api.OK || got.Time != at:
				t.Fatal(e)
			}
			granted++
			other := someQuery(r)
			other.Cert = false
			_, e = check.Accept(answer, other, o.Seal.Cert)
			fits := other.Imprint.Hash == q.Imprint.Hash && bytes.Equal(other.Imprint.Digest, q.Imprint.Digest) && bytes.Equal(other.Nonce, q.Nonce) && (len(other.Policy) == 0 || bytes.Equal(other.Policy, got.Policy))
			if (e == api.OK) != fits {
				t.Fatal(q, other, e)
			}
		}
	}
	if granted < 30 || outside < 10 {
		t.Error("few of a kind", granted, outside)
	}
}

// isSound is what P0.3 asks of a tree, with a signature that is raised here, and held against its encoding here.
func isSound(t api.Node, q api.Query, c api.Cert) bool {
	x, d, e := token.Open(t)
	own, f := cert.Build(c)
	if e != api.OK || f != api.OK || !cert.Stamps(c) || x.Time < c.From || x.Time > c.To {
		return false
	}
	with := !q.Cert
	for _, one := range d.Certs {
		with = with || tree.Same(one, own)
	}
	form, _ := der.Encode(own)
	s := d.Signer
	id, _ := mask.Sum(s.Attrs.Cert.Hash, form)
	content, _ := mask.Sum(s.Hash, d.Content)
	set, _ := attr.Build(s.Attrs)
	signed, _ := der.Encode(set)
	digest, _ := mask.Sum(s.Hash, signed)
	n, power := new(big.Int).SetBytes(c.Key.N), new(big.Int).SetBytes(c.Key.E)
	sig := new(big.Int).SetBytes(s.Sig)
	raised := new(big.Int).Exp(sig, power, n)
	encoded := false
	if len(s.Sig) == len(c.Key.N) && sig.Cmp(n) < 0 {
		if want, e := mask.Encode(s.Hash, digest, len(c.Key.N)); s.Way == api.Pkcs {
			encoded = e == api.OK && raised.Cmp(new(big.Int).SetBytes(want)) == 0
		} else if bits := n.BitLen() - 1; raised.BitLen() <= bits {
			encoded = pss.Verify(s.Hash, digest, raised.FillBytes(make([]byte, (bits+7)/8)), mask.Size(s.Hash), bits)
		}
	}
	name, _ := cert.BuildName(c.Issuer)
	who, _ := cert.BuildName(s.Issuer)
	whose, _ := cert.BuildName(s.Attrs.Cert.Issuer)
	return with && encoded && bytes.Equal(s.Attrs.Digest, content) && bytes.Equal(s.Attrs.Type, oid.Named("tstInfo")) &&
		tree.Same(name, who) && tree.Same(name, whose) && bytes.Equal(s.Serial, c.Serial) && bytes.Equal(s.Attrs.Cert.Serial, c.Serial) && bytes.Equal(s.Attrs.Cert.Digest, id) &&
		x.Imprint.Hash == q.Imprint.Hash && bytes.Equal(x.Imprint.Digest, q.Imprint.Digest) && bytes.Equal(x.Nonce, q.Nonce) && (len(q.Policy) == 0 || bytes.Equal(q.Policy, x.Policy))
}

// TestSoundness is P0.3: replies and tokens, written in any BER and turned in places, are accepted just if they are sound.
func TestSoundness(t *testing.T) {
	r := rand.New(rand.NewSource(3))
	sound, wrong := 0, 0
	for range 60 {
		s := sample.Seal(sample.Small())
		s.Way, s.With = api.Way(1+r.Intn(2)), r.Intn(2) == 0
		x := sample.Tst()
		made, e := token.Make(x, s, make([]byte, 32))
		if e != api.OK {
			t.Fatal(e)
		}
		answer, _ := reply.Build(reply.Granted(made))
		for range 30 {
			q, c := sample.Query(), s.Cert
			q.Nonce, q.Cert = x.Nonce, r.Intn(3) == 0
			for _, turn := range []func(){func() { q.Nonce = nil }, func() { q.Policy = []byte{0x2a, 4} }, func() { q.Imprint.Digest = make([]byte, 32) }, func() { c.Sig = nil }} {
				if r.Intn(25) == 0 {
					turn()
				}
			}
			one, two := made, answer
			if r.Intn(2) == 0 {
				one, two = sample.Turned(r.Intn, made), sample.Turned(r.Intn, answer)
			}
			way := make([]byte, r.Intn(200))
			r.Read(way)
			b, _ := ber.Write(one, way)
			d, _ := ber.Write(two, way)
			for range r.Intn(2) {
				if len(b) > 0 && len(d) > 0 {
					b[r.Intn(len(b))] ^= 1 << r.Intn(8)
					d[r.Intn(len(d))] ^= 1 << r.Intn(8)
				}
			}
			told, e := ber.Read(b)
			want := e == api.OK && isSound(told, q, c)
			if _, e := check.Trust(b, q, c); (e == api.OK) != want {
				t.Fatalf("%x: %v, not %v", b, e, want)
			}
			granted, e := reply.Open(d)
			wantReply := e == api.OK && granted.Status <= api.StatusModified && isSound(granted.Token, q, c)
			if _, e := check.Accept(d, q, c); (e == api.OK) != wantReply {
				t.Fatalf("%x: %v, not %v", d, e, wantReply)
			}
			if want {
				sound++
			} else {
				wrong++
			}
		}
	}
	if sound < 200 || wrong < 200 {
		t.Error("few of a kind", sound, wrong)
	}
}
