package sample

import (
	"postmark/api"
	"postmark/tree"
)

// Tree is a tree that may be, at most so deep; pick tells a number from 0 on, below the one that it is asked with. Its sets stand in any order.
func Tree(pick func(int) int, deep int) api.Node {
	if deep > 1 && pick(3) > 0 {
		return made(pick, deep)
	}
	if pick(5) == 0 {
		return tree.Prim(1+pick(3), pick(31), some(pick, 6))
	}
	return leaf(pick)
}

// made is a constructed one.
func made(pick func(int) int, deep int) api.Node {
	var kids []api.Node
	for range pick(5) {
		kids = append(kids, Tree(pick, deep-1))
	}
	switch pick(5) {
	case 0:
		return tree.Cons(1+pick(3), pick(31), kids...)
	case 1, 2:
		return tree.Cons(api.Universal, api.TagSet, kids...)
	}
	return tree.Cons(api.Universal, api.TagSeq, kids...)
}

// some are at most so many bytes.
func some(pick func(int) int, most int) []byte {
	b := make([]byte, pick(most+1))
	for i := range b {
		b[i] = byte(pick(256))
	}
	return b
}

// leaf is a primitive one of class Universal.
func leaf(pick func(int) int) api.Node {
	text := func(tag int, s string) api.Node { return tree.Prim(api.Universal, tag, []byte(s)[pick(len(s)+1):]) }
	whole := func(tag int, s string) api.Node { return tree.Prim(api.Universal, tag, []byte(s)) }
	switch pick(12) {
	case 0:
		return whole(api.TagBool, string([]byte{byte(255 * pick(2))}))
	case 1:
		return tree.Int(int64(pick(70000) - 35000))
	case 2:
		return bits(pick)
	case 3:
		return tree.Prim(api.Universal, api.TagBytes, some(pick, 30))
	case 4:
		return whole(api.TagNull, "")
	case 5:
		return whole(api.TagOid, "\x2a\x86\x48\x86\xf7\x0d")
	case 6:
		n := tree.Int(int64(pick(300)))
		n.Tag = api.TagEnum
		return n
	case 7:
		return whole(api.TagUtf8, "a\u00e9\u20ac")
	case 8:
		return text(api.TagPrint, "A printed text, of (30) letters")
	case 9:
		return text(api.TagIa5, "of@seven_bits")
	case 10:
		return whole(api.TagUtc, "491231235959Z")
	}
	return whole(api.TagTime, "20240229235959.25Z")
}

// bits are some, of which some are unused.
func bits(pick func(int) int) api.Node {
	b := some(pick, 20)
	unused := pick(8)
	if len(b) == 0 {
		unused = 0
	} else {
		b[len(b)-1] &= 0xff << unused
	}
	return tree.Prim(api.Universal, api.TagBits, append([]byte{byte(unused)}, b...))
}

// Turned is a tree with one of its nodes turned in some way; what comes out may be no tree that may be.
func Turned(pick func(int) int, t api.Node) api.Node {
	t = tree.Copy(t)
	count, _ := tree.Count(t)
	at := pick(count)
	turn(pick, &t, &at)
	return t
}

// turn turns the node of a number, counted from a node on.
func turn(pick func(int) int, t *api.Node, at *int) {
	if *at == 0 {
		change(pick, t)
	}
	*at--
	for i := 0; i < len(t.Kids) && *at >= 0; i++ {
		turn(pick, &t.Kids[i], at)
	}
}

// change changes one thing of a node by itself.
func change(pick func(int) int, t *api.Node) {
	kids, size := len(t.Kids), len(t.Bytes)
	switch what := pick(12); {
	case what == 0:
		t.Tag = pick(31)
	case what == 1:
		t.Class = pick(4)
	case what == 2:
		t.Cons = !t.Cons
	case what == 3:
		t.Bytes = append(t.Bytes, byte(pick(256)))
	case what == 4:
		t.Kids = append(t.Kids, leaf(pick))
	case what < 8 && kids > 0:
		i := pick(kids)
		t.Kids = append(t.Kids[:i:i], t.Kids[i+1:]...)
	case what < 10 && kids > 0:
		t.Kids = append(t.Kids, tree.Copy(t.Kids[pick(kids)]))
	case kids > 1:
		t.Kids[0], t.Kids[kids-1] = t.Kids[kids-1], t.Kids[0]
	case what < 7 && size > 0:
		t.Bytes = t.Bytes[:size-1]
	case size > 0:
		t.Bytes[pick(size)] ^= 1 << pick(8)
	}
}
