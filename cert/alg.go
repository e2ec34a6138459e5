package cert

import (
	"bytes"
	"strings"

	"postmark/api"
	"postmark/mask"
	"postmark/oid"
	"postmark/tree"
)

const (
	shaPrefix   = "sha" // of a hash's name
	rsaPrefix   = "rsa" // of its signing's name
	countrySize = 2
)

// seq is a sequence.
func seq(kids ...api.Node) api.Node { return tree.Cons(api.Universal, api.TagSeq, kids...) }

// nullNode is NULL.
func nullNode() api.Node { return tree.Prim(api.Universal, api.TagNull, nil) }

// named is the OID of a name.
func named(name string) api.Node {
	return tree.Prim(api.Universal, api.TagOid, oid.Named(name))
}

// bitsOf are BITS of bytes.
func bitsOf(b []byte) api.Node {
	return tree.Prim(api.Universal, api.TagBits, append([]byte{0}, b...))
}

// behind is what stands behind the first byte.
func behind(b []byte) []byte {
	if len(b) == 0 {
		return nil
	}
	return b[1:]
}

// kin are a node's kids that nobody took yet.
type kin struct{ left []api.Node }

// next takes the next one: an empty node behind the last one, which no tree has.
func (k *kin) next() api.Node {
	if len(k.left) == 0 {
		return api.Node{}
	}
	t := k.left[0]
	k.left = k.left[1:]
	return t
}

// taker takes a node's kids one by one.
func taker(t api.Node) func() api.Node {
	k := &kin{t.Kids}
	return k.next
}

// isHash says whether there is a hash.
func isHash(h api.Hash) bool { return mask.Size(h) > 0 }

// isWay says whether there is a way.
func isWay(w api.Way) bool { return w == api.Pkcs || w == api.Pss }

// HashAlg is a hash's algorithm.
func HashAlg(h api.Hash, null bool) (api.Node, api.Errno) {
	switch {
	case !isHash(h):
		return api.Node{}, api.ErrCert
	case null:
		return seq(named(mask.Name(h)), nullNode()), api.OK
	}
	return seq(named(mask.Name(h))), api.OK
}

// ReadHashAlg is the hash of an algorithm.
func ReadHashAlg(t api.Node) (h api.Hash, null bool, e api.Errno) {
	h = mask.Named(oid.Name(taker(t)().Bytes))
	null = len(t.Kids) > 1
	if built, e := HashAlg(h, null); e != api.OK || !tree.Same(built, t) {
		return 0, false, api.ErrCert
	}
	return h, null, api.OK
}

// SignAlg is a way's algorithm, of a hash.
func SignAlg(w api.Way, h api.Hash) (api.Node, api.Errno) {
	if !isWay(w) || !isHash(h) {
		return api.Node{}, api.ErrCert
	}
	if w == api.Pkcs {
		return seq(named(rsaPrefix+strings.TrimPrefix(mask.Name(h), shaPrefix)), nullNode()), api.OK
	}
	hash, _ := HashAlg(h, true)
	return seq(named("pss"), seq(
		tree.Cons(api.Context, 0, hash),
		tree.Cons(api.Context, 1, seq(named("mgf1"), hash)),
		tree.Cons(api.Context, 2, tree.Int(int64(mask.Size(h)))),
	)), api.OK
}

// ReadSignAlg are the way and the hash of an algorithm.
func ReadSignAlg(t api.Node) (api.Way, api.Hash, api.Errno) {
	take := taker(t)
	name := oid.Name(take().Bytes)
	w, h := api.Pkcs, mask.Named(shaPrefix+strings.TrimPrefix(name, rsaPrefix))
	if name == "pss" {
		w = api.Pss
		h, _, _ = ReadHashAlg(taker(taker(take())())())
	}
	if built, e := SignAlg(w, h); e != api.OK || !tree.Same(built, t) {
		return 0, 0, api.ErrCert
	}
	return w, h, api.OK
}

// kindName is the OID's name of a kind of a name's parts; nothing, if there is no such kind.
func kindName(kind int) string {
	switch kind {
	case api.RdnCommon:
		return "commonName"
	case api.RdnOrg:
		return "organizationName"
	case api.RdnCountry:
		return "countryName"
	}
	return ""
}

// kindOf is the kind of an OID; 0, if it is of none.
func kindOf(b []byte) int {
	for kind := api.RdnCommon; kind <= api.RdnCountry; kind++ {
		if bytes.Equal(oid.Named(kindName(kind)), b) {
			return kind
		}
	}
	return 0
}

// textTag is the tag as which a part's text stands.
func textTag(r api.Rdn) int {
	if r.Print {
		return api.TagPrint
	}
	return api.TagUtf8
}

// isRdn says whether a part may be a name's.
func isRdn(r api.Rdn) bool {
	if kindName(r.Kind) == "" || r.Text == "" || len(r.Text) > api.MaxLabel || !isOf(textTag(r), []byte(r.Text)) {
		return false
	}
	return r.Kind != api.RdnCountry || r.Print && len(r.Text) == countrySize
}

// isName says whether a name may be.
func isName(n api.Name) bool {
	if len(n) == 0 || len(n) > api.MaxRdns {
		return false
	}
	for _, r := range n {
		if !isRdn(r) {
			return false
		}
	}
	return true
}

// BuildName is a name's tree.
func BuildName(n api.Name) (api.Node, api.Errno) {
	if !isName(n) {
		return api.Node{}, api.ErrCert
	}
	var kids []api.Node
	for _, r := range n {
		text := tree.Prim(api.Universal, textTag(r), []byte(r.Text))
		kids = append(kids, tree.Cons(api.Universal, api.TagSet, seq(named(kindName(r.Kind)), text)))
	}
	return seq(kids...), api.OK
}

// ReadName is a tree's name.
func ReadName(t api.Node) (api.Name, api.Errno) {
	var n api.Name
	for _, set := range t.Kids {
		take := taker(taker(set)())
		kind, text := kindOf(take().Bytes), take()
		n = append(n, api.Rdn{Kind: kind, Text: string(text.Bytes), Print: text.Tag == api.TagPrint})
	}
	if built, e := BuildName(n); e != api.OK || !tree.Same(built, t) {
		return nil, api.ErrCert
	}
	return n, api.OK
}

// BuildImprint is an imprint's tree.
func BuildImprint(x api.Imprint) (api.Node, api.Errno) {
	alg, e := HashAlg(x.Hash, x.Null)
	if e != api.OK || len(x.Digest) != mask.Size(x.Hash) {
		return api.Node{}, api.ErrCert
	}
	return seq(alg, tree.Prim(api.Universal, api.TagBytes, x.Digest)), api.OK
}

// ReadImprint is a tree's imprint.
func ReadImprint(t api.Node) (api.Imprint, api.Errno) {
	take := taker(t)
	var x api.Imprint
	x.Hash, x.Null, _ = ReadHashAlg(take())
	x.Digest = bytes.Clone(take().Bytes)
	if built, e := BuildImprint(x); e != api.OK || !tree.Same(built, t) {
		return api.Imprint{}, api.ErrCert
	}
	return x, api.OK
}
