package sample

import (
	"bytes"

	"postmark/api"
	"postmark/oid"
	"postmark/tree"
)

// Other is an attribute of an identifier that nobody knows, with a number as its value; those of greater numbers stand behind those of lesser ones.
func Other(n byte) api.Node {
	return tree.Cons(api.Universal, api.TagSeq,
		tree.Prim(api.Universal, api.TagOid, []byte{0x2a, n & 127}),
		tree.Cons(api.Universal, api.TagSet, tree.Int(int64(n))))
}

// ID is a certificate's sign that may be, of no certificate.
func ID() api.CertID {
	return api.CertID{Hash: api.Sha256, Digest: bytes.Repeat([]byte{9}, 32), Issuer: Name("the issuer"), Serial: []byte{0x12, 0x34}}
}

// Attrs are attributes that may be.
func Attrs() api.Attrs {
	return api.Attrs{
		Type:   oid.Named("data"),
		Digest: bytes.Repeat([]byte{7}, 32),
		Cert:   ID(),
		Time:   951782400000,
		Others: []api.Node{Other(3), Other(5)},
	}
}

// Signer is one that may be, who did not sign yet.
func Signer() api.Signer {
	return api.Signer{
		Issuer:   Name("the issuer"),
		Serial:   []byte{0x12, 0x34},
		Hash:     api.Sha256,
		Null:     true,
		Attrs:    Attrs(),
		Way:      api.Pss,
		Sig:      []byte{4, 5, 6},
		Unsigned: []api.Node{Other(7), Other(9)},
	}
}

// Cms is signed data that may be, which nobody signed yet.
func Cms() api.Cms {
	return api.Cms{
		Type:    oid.Named("data"),
		Content: []byte("a content"),
		Certs:   []api.Node{tree.Cons(api.Universal, api.TagSeq, tree.Int(1)), tree.Cons(api.Universal, api.TagSeq, tree.Int(2))},
		Signer:  Signer(),
	}
}

// Query is one that may be, of a content's hash, which asks for nothing else.
func Query() api.Query {
	return api.Query{Imprint: api.Imprint{Hash: api.Sha256, Null: true, Digest: bytes.Repeat([]byte{0xab}, 32)}}
}

// Tst is a stamp that may be, in which everything stands that may.
func Tst() api.Tst {
	return api.Tst{
		Policy:   []byte{0x2a, 3},
		Imprint:  Query().Imprint,
		Serial:   []byte{0, 200},
		Time:     951782400500,
		Exact:    true,
		Accuracy: api.Accuracy{Seconds: 1, Micros: 500},
		Ordering: true,
		Nonce:    []byte{0, 129},
		Tsa:      []api.Node{tree.Cons(api.Context, 4, tree.Int(5))},
		Exts:     []api.Ext{{Oid: []byte{0x2a, 9}, Value: []byte{1}}, {Oid: []byte{0x2a, 8}, Critical: true}},
	}
}

// Seal is one by a key, with its sample certificate.
func Seal(k api.Key) api.Seal {
	return api.Seal{Cert: Cert(k), Hash: api.Sha256, Way: api.Pss, Key: k, With: true}
}

// Office is one by a key, whose first serial is 41: it takes two policies, and all hashes but one.
func Office(k api.Key) api.Office {
	return api.Office{
		Seal:     Seal(k),
		Policies: [][]byte{{0x2a, 3}, {0x2a, 4}},
		Hashes:   []api.Hash{api.Sha256, api.Sha384, api.Sha512},
		Exact:    true,
		Accuracy: api.Accuracy{Seconds: 1, Millis: 500},
		Ordering: true,
		First:    41,
	}
}
