package ber

import (
	"slices"

	"postmark/api"
	"postmark/der"
	"postmark/octet"
	"postmark/tree"
)

// What the first byte that a node takes says, by 3.
const (
	longLength = 1
	openLength = 2
)

// writer writes a tree in a way.
type writer struct {
	next     func() byte // of the way
	elements int
	deepest  int
	raw      int // bytes of content so far: no fewer are written
}

// taker tells the bytes of a way, one by one, and 0 behind them.
func taker(way []byte) func() byte {
	return func() byte {
		if len(way) == 0 {
			return 0
		}
		b := way[0]
		way = way[1:]
		return b
	}
}

// count counts elements that are so deep.
func (w *writer) count(elements, deep int) {
	w.elements += elements
	if elements > 0 {
		w.deepest = max(w.deepest, deep)
	}
}

// tooLong says whether what is written surely has more bytes than may be: then no more are made, but elements are counted on.
func (w *writer) tooLong() bool { return w.raw > api.MaxTree }

// node writes a node that is so deep.
func (w *writer) node(t *api.Node, deep int) []byte {
	p, q := w.next(), w.next()
	w.count(1, deep)
	w.raw += len(t.Bytes)
	cons, content := t.Cons, []byte(nil)
	switch {
	case cons:
		content = w.kids(t, q, deep+1)
	case q%2 == 1 && isCut(t):
		cons = true
		content = w.pieces(t, int(q/2%7)+1, deep+1)
	case !w.tooLong():
		content = turned(t, q)
	}
	if w.tooLong() {
		return nil
	}
	return element(t, cons, p, content)
}

// element is one with its content, its length written as p says.
func element(t *api.Node, cons bool, p byte, content []byte) []byte {
	first := byte(t.Class*classWorth + t.Tag)
	if cons {
		first |= constructed
	}
	switch {
	case p%3 == longLength:
		return octet.Join([]byte{first}, longer(len(content), int(p/3%5)), content)
	case p%3 == openLength && cons:
		return octet.Join([]byte{first, long}, content, make([]byte, endSize))
	}
	return octet.Join([]byte{first}, der.Length(len(content)), content)
}

// longer is a length with so many noughts ahead.
func longer(n, noughts int) []byte {
	b, _ := octet.Big(uint64(n), 8)
	b = octet.Join(make([]byte, noughts), octet.Trim(b))
	if len(b) == 0 {
		b = []byte{0}
	}
	return octet.Join([]byte{byte(long + len(b))}, b)
}

// kids are written in their order, so that each takes its own bytes of the way; a set's are then laid round.
func (w *writer) kids(t *api.Node, q byte, deep int) []byte {
	var l [][]byte
	for i := range t.Kids {
		l = append(l, w.node(&t.Kids[i], deep))
	}
	if tree.Is(*t, api.Universal, api.TagSet) && len(l) > 0 {
		from := int(q) % len(l)
		l = slices.Concat(l[from:], l[:from])
	}
	return octet.Join(l...)
}

// isCut says whether a node may be written in pieces.
func isCut(t *api.Node) bool {
	return t.Class == api.Universal && (isString(t.Tag) || hasBits(t))
}

// hasBits says whether a node is a TagBits that has any.
func hasBits(t *api.Node) bool {
	return tree.Is(*t, api.Universal, api.TagBits) && len(t.Bytes) > 1
}

// pieces are a string's, of so many bytes each, but for the last one.
func (w *writer) pieces(t *api.Node, size, deep int) []byte {
	left, tag, unused := t.Bytes, api.TagBytes, byte(0)
	bits := hasBits(t)
	if bits {
		left, tag, unused = t.Bytes[1:], api.TagBits, t.Bytes[0]
	}
	w.count((len(left)+size-1)/size, deep)
	var all []byte
	for len(left) > 0 && !w.tooLong() {
		piece := left[:min(size, len(left))]
		left = left[len(piece):]
		switch {
		case bits && len(left) > 0:
			piece = octet.Join([]byte{0}, piece)
		case bits:
			piece = octet.Join([]byte{unused}, piece)
		}
		all = append(all, byte(tag))
		all = append(all, der.Length(len(piece))...)
		all = append(all, piece...)
	}
	return all
}

// turned is the content of a node that is not cut, with such bits as BER leaves open set as q has them.
func turned(t *api.Node, q byte) []byte {
	b := octet.Join(t.Bytes)
	switch {
	case tree.Is(*t, api.Universal, api.TagBool) && b[0] != 0 && q != 0:
		b[0] = q
	case hasBits(t):
		b[len(b)-1] |= q & (1<<b[0] - 1)
	}
	return b
}

// Write is a tree's BER, in some way.
func Write(t api.Node, way []byte) ([]byte, api.Errno) {
	if e := tree.Check(t); e != api.OK {
		return nil, e
	}
	w := &writer{next: taker(way)}
	b := w.node(&t, 1)
	switch {
	case w.deepest > api.MaxDeep || w.elements > api.MaxParts:
		return nil, api.ErrBer
	case w.tooLong() || len(b) > api.MaxTree:
		return nil, api.ErrLong
	}
	return b, api.OK
}
