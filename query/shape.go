package query

import (
	"bytes"
	"iter"
	"slices"

	"postmark/api"
	"postmark/tree"
)

// shape is what stands where in a tree that has a query's shape: the query, but for its imprint's hash, which may be none.
type shape struct {
	version api.Node
	alg     api.Node
	query   api.Query
}

// wish is what is looked for next: whether it has to be there, and what takes a node that is it.
type wish struct {
	must bool
	take func(api.Node) bool
}

// is says whether a node is of class Universal and a tag.
func is(t api.Node, tag int) bool { return tree.Is(t, api.Universal, tag) }

// wishes are what is looked for in a query's tree, in order.
func (s *shape) wishes() []wish {
	q := &s.query
	return []wish{
		{true, func(t api.Node) bool {
			s.version = t
			return is(t, api.TagInt)
		}},
		{true, s.takeImprint},
		{false, func(t api.Node) bool { return takeBytes(t, api.TagOid, &q.Policy) }},
		{false, func(t api.Node) bool {
			return len(t.Bytes) <= api.MaxNonce && takeBytes(t, api.TagInt, &q.Nonce)
		}},
		{false, func(t api.Node) bool {
			here := tree.Same(t, yes())
			q.Cert = q.Cert || here
			return here
		}},
		{false, s.takeExts},
	}
}

// takeBytes takes a node's bytes, if it is of a tag.
func takeBytes(t api.Node, tag int, b *[]byte) bool {
	if !is(t, tag) {
		return false
	}
	*b = bytes.Clone(t.Bytes)
	return true
}

// takeImprint takes an imprint, of whatever algorithm.
func (s *shape) takeImprint(t api.Node) bool {
	if !is(t, api.TagSeq) || len(t.Kids) != 2 {
		return false
	}
	s.alg = t.Kids[0]
	inner := s.alg.Kids
	return is(s.alg, api.TagSeq) && (len(inner) == 1 || len(inner) == 2) && is(inner[0], api.TagOid) && takeBytes(t.Kids[1], api.TagBytes, &s.query.Imprint.Digest)
}

// takeExts takes extensions, of whatever identifiers.
func (s *shape) takeExts(t api.Node) bool {
	if !tree.Is(t, api.Context, 0) || len(t.Kids) == 0 {
		return false
	}
	var l []api.Ext
	for _, kid := range t.Kids {
		x, fine := readExt(kid)
		if !fine {
			return false
		}
		l = append(l, x)
	}
	s.query.Exts = l
	return true
}

// readExt is the extension of a tree.
func readExt(t api.Node) (api.Ext, bool) {
	var x api.Ext
	if len(t.Kids) < 2 {
		return x, false
	}
	last := len(t.Kids) - 1
	x.Oid = bytes.Clone(t.Kids[0].Bytes)
	x.Critical = last == 2
	x.Value = bytes.Clone(t.Kids[last].Bytes)
	return x, tree.Same(extOf(x), t)
}

// told tells a node's kids one by one.
func told(t api.Node) iter.Seq[api.Node] {
	return func(yield func(api.Node) bool) {
		for _, kid := range t.Kids {
			if !yield(kid) {
				return
			}
		}
	}
}

// shaped is what stands in a tree, and whether that has a query's shape.
func shaped(t api.Node) (shape, bool) {
	s := &shape{}
	left := s.wishes()
	fine := is(t, api.TagSeq)
looking:
	for kid := range told(t) {
		for {
			if len(left) == 0 {
				fine = false
				break looking
			}
			next := left[0]
			left = left[1:]
			if next.take(kid) {
				continue looking
			}
			if next.must {
				fine = false
				break looking
			}
		}
	}
	missing := slices.ContainsFunc(left, func(w wish) bool { return w.must })
	return *s, fine && !missing
}
