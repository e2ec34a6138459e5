package token

import (
	"bytes"
	"iter"

	"postmark/api"
	"postmark/cert"
	"postmark/der"
	"postmark/hour"
	"postmark/tree"
)

// fixed is how many parts stand in every stamp.
const fixed = 5

// number is that of an INT's bytes; 0, if it is none, or too great.
func number(b []byte) int {
	n, _ := tree.AsInt(prim(api.TagInt, b))
	return int(n)
}

// readAccuracy is the accuracy of a tree.
func readAccuracy(t api.Node) api.Accuracy {
	var a api.Accuracy
	for _, kid := range t.Kids {
		n := number(kid.Bytes)
		switch {
		case tree.Is(kid, api.Context, millisTag):
			a.Millis = n
		case tree.Is(kid, api.Context, microsTag):
			a.Micros = n
		default:
			a.Seconds = n
		}
	}
	return a
}

// readExt is the extension of a tree.
func readExt(t api.Node) api.Ext {
	var x api.Ext
	if len(t.Kids) < 2 {
		return x
	}
	last := len(t.Kids) - 1
	x.Oid = bytes.Clone(t.Kids[0].Bytes)
	x.Critical = last == 2
	x.Value = bytes.Clone(t.Kids[last].Bytes)
	return x
}

// told tells the parts of a stamp's tree that may stand there, or not.
func told(t api.Node) iter.Seq[api.Node] {
	return func(yield func(api.Node) bool) {
		for _, part := range t.Kids[fixed:] {
			if !yield(part) {
				return
			}
		}
	}
}

// choose puts such a part where it belongs, and says whether it belongs anywhere.
func choose(x *api.Tst, part api.Node) bool {
	switch {
	case tree.Is(part, api.Universal, api.TagSeq):
		x.Exact, x.Accuracy = true, readAccuracy(part)
	case tree.Is(part, api.Universal, api.TagBool):
		x.Ordering = true
	case tree.Is(part, api.Universal, api.TagInt):
		x.Nonce = bytes.Clone(part.Bytes)
	case tree.Is(part, api.Context, tsaTag):
		x.Tsa = tree.Copy(part).Kids
	case tree.Is(part, api.Context, extsTag):
		for _, kid := range part.Kids {
			x.Exts = append(x.Exts, readExt(kid))
		}
	default:
		return false
	}
	return true
}

// Read is a tree's stamp.
func Read(t api.Node) (api.Tst, api.Errno) {
	if _, e := der.Size(t); e != api.OK || len(t.Kids) < fixed {
		return api.Tst{}, api.ErrToken
	}
	x := api.Tst{Policy: bytes.Clone(t.Kids[1].Bytes), Serial: bytes.Clone(t.Kids[3].Bytes)}
	x.Imprint, _ = cert.ReadImprint(t.Kids[2])
	x.Time, _ = hour.ReadGeneral(string(t.Kids[4].Bytes))
	fine := true
telling:
	for part := range told(t) {
		if !choose(&x, part) {
			fine = false
			break telling
		}
	}
	// What it is built as tells whether the tree is one at all.
	if built, e := Build(x); !fine || e != api.OK || !tree.Same(built, t) {
		return api.Tst{}, api.ErrToken
	}
	return x, api.OK
}
