package attr

import (
	"bytes"
	"slices"

	"postmark/api"
	"postmark/cert"
	"postmark/der"
	"postmark/mask"
	"postmark/tree"
)

const (
	unsaid  = api.Sha256 // the hash of a sign that does not say which
	nameTag = 4          // of a name among other kinds of names
)

// isSerial says whether bytes are a certificate's serial.
func isSerial(b []byte) bool {
	return len(b) <= api.SerialBytes && tree.Check(prim(api.TagInt, b)) == api.OK && b[0] < 128 && !bytes.Equal(b, []byte{0})
}

// BuildID is a certificate's sign's tree.
func BuildID(x api.CertID) (api.Node, api.Errno) {
	alg, e := cert.HashAlg(x.Hash, false)
	name, f := cert.BuildName(x.Issuer)
	if e != api.OK || f != api.OK || len(x.Digest) != mask.Size(x.Hash) || !isSerial(x.Serial) {
		return api.Node{}, api.ErrAttr
	}
	var kids []api.Node
	if x.Hash != unsaid {
		kids = append(kids, alg)
	}
	issuer := seq(seq(tree.Cons(api.Context, nameTag, name)), prim(api.TagInt, x.Serial))
	t := seq(append(kids, prim(api.TagBytes, x.Digest), issuer)...)
	if _, e := der.Size(t); e != api.OK {
		return api.Node{}, e
	}
	return t, api.OK
}

// ReadID is a tree's certificate's sign.
func ReadID(t api.Node) (api.CertID, api.Errno) {
	x := api.CertID{Hash: unsaid}
	at := 0
	if alg := kid(t, 0); tree.Is(alg, api.Universal, api.TagSeq) {
		x.Hash, _, _ = cert.ReadHashAlg(alg)
		at = 1
	}
	issuer := kid(t, at+1)
	x.Digest = bytes.Clone(kid(t, at).Bytes)
	x.Issuer, _ = cert.ReadName(kid(kid(kid(issuer, 0), 0), 0))
	x.Serial = bytes.Clone(kid(issuer, 1).Bytes)
	if built, e := BuildID(x); e != api.OK || !tree.Same(built, t) {
		return api.CertID{}, api.ErrAttr
	}
	return x, api.OK
}

// Sign is a certificate's sign.
func Sign(c api.Cert, h api.Hash) (api.CertID, api.Errno) {
	if mask.Size(h) == 0 {
		return api.CertID{}, api.ErrAttr
	}
	t, e := cert.Build(c)
	if e != api.OK {
		return api.CertID{}, e
	}
	b, _ := der.Encode(t)
	digest, _ := mask.Sum(h, b)
	return api.CertID{Hash: h, Digest: digest, Issuer: slices.Clone(c.Issuer), Serial: bytes.Clone(c.Serial)}, api.OK
}

// Of says whether a sign is a certificate's.
func Of(x api.CertID, c api.Cert) bool {
	own, e := Sign(c, x.Hash)
	return e == api.OK && bytes.Equal(own.Digest, x.Digest) && slices.Equal(own.Issuer, x.Issuer) && bytes.Equal(own.Serial, x.Serial)
}
