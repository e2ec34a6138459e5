package sample

import (
	"bytes"

	"postmark/api"
	"postmark/oid"
)

const (
	// From and To are the times within which sample certificates are valid.
	From = 1000
	To   = 4102444800000

	purpose = "300a06082b06010505070308" // timeStamping alone
	usage   = "03020780"                 // signatures
)

// Name is one of a country and a common name.
func Name(text string) api.Name {
	return api.Name{{Kind: api.RdnCountry, Text: "CH", Print: true}, {Kind: api.RdnCommon, Text: text}}
}

// Stamping is the extension by which a certificate stamps.
func Stamping() api.Ext {
	return api.Ext{Oid: oid.Named("extKeyUsage"), Critical: true, Value: Bytes(purpose)}
}

// Cert is a certificate of a key, which stamps. Its signature is none: no layer looks at it.
func Cert(k api.Key) api.Cert {
	return api.Cert{
		Serial:  []byte{0x12, 0x34},
		Way:     api.Pkcs,
		Hash:    api.Sha256,
		Issuer:  Name("the issuer"),
		From:    From,
		To:      To,
		Subject: Name("the authority"),
		Key:     api.Key{N: bytes.Clone(k.N), E: bytes.Clone(k.E)},
		Exts:    []api.Ext{Stamping(), {Oid: oid.Named("keyUsage"), Critical: true, Value: Bytes(usage)}},
		Sig:     []byte{1, 2, 3},
	}
}
