package strict_test

import (
	"bytes"
	"math/rand"
	"testing"

	"postmark/api"
	"postmark/der"
	"postmark/sample"
	"postmark/strict"
	"postmark/tree"
)

var null = tree.Prim(api.Universal, api.TagNull, nil)

func seq(kids ...api.Node) api.Node { return tree.Cons(api.Universal, api.TagSeq, kids...) }

// nested are the bytes of so many empty constructed nodes of one tag, within one another.
func nested(deep int) []byte {
	var b []byte
	for range deep {
		b = append(append([]byte{0xa0}, der.Length(len(b))...), b...)
	}
	return b
}

func TestReadExamples(t *testing.T) {
	for _, x := range []struct {
		hex  string
		want api.Node
		e    api.Errno
	}{
		{"020105", tree.Int(5), api.OK}, {"0500", null, api.OK}, {"30050201050500", seq(tree.Int(5), null), api.OK}, {"830161", tree.Prim(2, 3, []byte("a")), api.OK}, {"3000", seq(), api.OK}, {"7e00", tree.Cons(1, 30), api.OK},
		{hex: "02020005", e: api.ErrStrict}, {hex: "02810105", e: api.ErrStrict}, {hex: "0201", e: api.ErrStrict}, {hex: "02", e: api.ErrStrict}, {hex: "", e: api.ErrStrict},
		{hex: "30800000", e: api.ErrStrict}, {hex: "3106020106020105", e: api.ErrStrict}, {hex: "010101", e: api.ErrStrict}, {hex: "0101ff", want: tree.Prim(0, 1, []byte{255})},
		{hex: "050007", e: api.ErrStrict}, {hex: "05000500", e: api.ErrStrict}, {hex: "0000", e: api.ErrStrict}, {hex: "1f00", e: api.ErrStrict}, {hex: "1f0100", e: api.ErrStrict}, {hex: "bf1f00", e: api.ErrStrict}, {hex: "9f00", e: api.ErrStrict},
		{hex: "3003050005", e: api.ErrStrict}, {hex: "3001050500", e: api.ErrStrict}, {hex: "300102", e: api.ErrStrict}, {hex: "a0020201", e: api.ErrStrict}, {hex: "2400", e: api.ErrStrict}, {hex: "1000", e: api.ErrStrict}, {hex: "0400", want: tree.Prim(0, 4, nil)},
		{hex: "0480", e: api.ErrStrict}, {hex: "04800000", e: api.ErrStrict}, {hex: "048100", e: api.ErrStrict}, {hex: "04820001" + "61", e: api.ErrStrict}, {hex: "0483000001" + "61", e: api.ErrStrict}, {hex: "048400000001" + "61", e: api.ErrStrict}, {hex: "0484ffffffff", e: api.ErrStrict}, {hex: "0488ffffffffffffffff", e: api.ErrStrict}, {hex: "04fe", e: api.ErrStrict}, {hex: "04ff", e: api.ErrStrict}, {hex: "0483ffffff", e: api.ErrStrict},
		{hex: "240404020161", e: api.ErrStrict}, {hex: "03020105", e: api.ErrStrict}, {hex: "0302015e", want: tree.Prim(0, 3, []byte{1, 0x5e})},
	} {
		b := sample.Bytes(x.hex)
		got, e := strict.Read(b)
		if e != x.e || !tree.Same(got, x.want) {
			t.Error(x.hex, got, e)
		}
		if strict.Is(b) != (x.e == api.OK) {
			t.Error(x.hex)
		}
	}
}

func TestFirstAndList(t *testing.T) {
	for _, x := range []struct {
		hex  string
		want api.Node
		n    int
		e    api.Errno
	}{
		{"050007", null, 2, api.OK}, {"0500", null, 2, api.OK}, {"02010502", tree.Int(5), 3, api.OK}, {"", api.Node{}, 0, api.ErrStrict}, {"05", api.Node{}, 0, api.ErrStrict}, {"07000500", api.Node{}, 0, api.ErrStrict}, {"0200", api.Node{}, 0, api.ErrStrict}, {"3106020106020105", api.Node{}, 0, api.ErrStrict},
	} {
		got, n, e := strict.First(sample.Bytes(x.hex))
		if !tree.Same(got, x.want) || n != x.n || e != x.e {
			t.Error(x.hex, got, n, e)
		}
	}
	for _, x := range []struct {
		hex  string
		want []api.Node
		e    api.Errno
	}{
		{"05000500", []api.Node{null, null}, api.OK}, {"", nil, api.OK}, {"0201050500", []api.Node{tree.Int(5), null}, api.OK}, {"0500020105", []api.Node{null, tree.Int(5)}, api.OK},
		{"050005", nil, api.ErrStrict}, {"0500020200050500", nil, api.ErrStrict}, {"0700", nil, api.ErrStrict}, {"05000000", nil, api.ErrStrict},
	} {
		got, e := strict.List(sample.Bytes(x.hex))
		if e != x.e || !tree.Same(seq(got...), seq(x.want...)) {
			t.Error(x.hex, got, e)
		}
	}
}

// TestLimits goes to the limits of bytes, nodes and depth, and beyond.
func TestLimits(t *testing.T) {
	long := func(size int) []byte {
		b := append([]byte{4}, der.Length(size)...)
		return append(b, make([]byte, size)...)
	}
	many := func(nodes int) []byte {
		b := append([]byte{0x30}, der.Length(2*(nodes-1))...)
		return append(b, bytes.Repeat([]byte{5, 0}, nodes-1)...)
	}
	for i, x := range []struct {
		b                 []byte
		read, first, list api.Errno
	}{
		{long(65532), api.OK, api.OK, api.OK}, {long(65533), api.ErrLong, api.ErrStrict, api.ErrLong}, {long(1 << 20), api.ErrLong, api.ErrStrict, api.ErrLong},
		{append(long(65531), 5), api.ErrStrict, api.OK, api.ErrStrict}, {append(long(65532), 5), api.ErrLong, api.OK, api.ErrLong}, {make([]byte, 70000), api.ErrLong, api.ErrStrict, api.ErrLong}, {append([]byte{5, 0}, make([]byte, 70000)...), api.ErrLong, api.OK, api.ErrLong},
		{many(4000), api.OK, api.OK, api.OK}, {many(4001), api.ErrStrict, api.ErrStrict, api.ErrStrict}, {nested(24), api.OK, api.OK, api.OK}, {nested(25), api.ErrStrict, api.ErrStrict, api.ErrStrict}, {nested(9000), api.ErrStrict, api.ErrStrict, api.ErrStrict},
		{bytes.Repeat([]byte{5, 0}, 32768), api.ErrStrict, api.OK, api.OK}, {append(many(4000), many(4000)...), api.ErrStrict, api.OK, api.OK}, {append(nested(24), nested(24)...), api.ErrStrict, api.OK, api.OK},
	} {
		if _, e := strict.Read(x.b); e != x.read || strict.Is(x.b) != (e == api.OK) {
			t.Error(i, "read", e)
		}
		if _, n, e := strict.First(x.b); e != x.first || (n == 0) != (e != api.OK) {
			t.Error(i, "first", n, e)
		}
		if l, e := strict.List(x.b); e != x.list || e != api.OK && l != nil {
			t.Error(i, "list", e)
		}
	}
	if l, e := strict.List(bytes.Repeat([]byte{5, 0}, 32768)); len(l) != 32768 || e != api.OK {
		t.Error(len(l), e)
	}
}

// TestWhatFollows writes trees and reads them; cuts their bytes; and turns them.
func TestWhatFollows(t *testing.T) {
	r := rand.New(rand.NewSource(1))
	fine := 0
	for range 1500 {
		x, _ := der.Sorted(sample.Tree(r.Intn, 5))
		b, _ := der.Encode(x)
		back, e := strict.Read(b)
		if e != api.OK || !tree.Same(back, x) {
			t.Fatal(x, back, e)
		}
		tail := []byte{byte(r.Intn(256)), byte(r.Intn(256))}
		if first, n, e := strict.First(append(bytes.Clone(b), tail...)); e != api.OK || n != len(b) || !tree.Same(first, x) {
			t.Fatal(x, first, n, e)
		}
		for cut := range min(len(b), 80) {
			if _, _, e := strict.First(b[:cut]); e != api.ErrStrict {
				t.Fatal("the beginning of a tree is read", x, cut)
			}
		}
		y, _ := der.Sorted(sample.Tree(r.Intn, 3))
		c, _ := der.Encode(y)
		if l, e := strict.List(append(bytes.Clone(b), c...)); e != api.OK || len(l) != 2 || !tree.Same(l[0], x) || !tree.Same(l[1], y) {
			t.Fatal(x, y, l, e)
		}
		for range 20 {
			turned := bytes.Clone(b)
			turned[r.Intn(len(b))] = byte(r.Intn(256))
			if z, e := strict.Read(turned); e == api.OK {
				if again, e := der.Encode(z); e != api.OK || !bytes.Equal(again, turned) {
					t.Fatal("not what it is written as", turned, z)
				}
				fine++
			} else if e != api.ErrStrict || !tree.Same(z, api.Node{}) {
				t.Fatal(turned, z, e)
			}
		}
	}
	if fine < 1000 {
		t.Error("few that are read", fine)
	}
}

// TestAllShort asks for all bytes of few: they are read just if a tree is written as they are.
func TestAllShort(t *testing.T) {
	written := map[string]int{}
	for first := range 256 {
		for _, content := range [][]byte{nil, {0}, {1}, {5}, {0x7f}, {0x80}, {0xff}, {'a'}, {'*'}} {
			x := api.Node{Class: first >> 6, Tag: first & 31, Cons: first&32 != 0, Bytes: content}
			if b, e := der.Encode(x); e == api.OK {
				written[string(b)] = 1
			}
		}
	}
	for first := range 256 {
		if strict.Is([]byte{byte(first)}) {
			t.Error(first)
		}
		for second := range 256 {
			two := []byte{byte(first), byte(second)}
			if strict.Is(two) != (written[string(two)] == 1) {
				t.Error(two)
			}
			for _, third := range []byte{0, 1, 5, 0x7f, 0x80, 0xff, 'a', '*'} {
				three := append(bytes.Clone(two), third)
				if strict.Is(three) != (written[string(three)] == 1) {
					t.Error(three)
				}
			}
		}
	}
}

func TestMemory(t *testing.T) {
	b := sample.Bytes("3006040161040162")
	kept := bytes.Clone(b)
	x, _ := strict.Read(b)
	y, _, _ := strict.First(b)
	l, _ := strict.List(b)
	want := seq(tree.Prim(0, 4, []byte("a")), tree.Prim(0, 4, []byte("b")))
	clear(b)
	if !tree.Same(x, want) || !tree.Same(y, want) || !tree.Same(l[0], want) {
		t.Error("what was handed in is kept")
	}
	copy(b, kept)
	x, _ = strict.Read(b)
	x.Kids[0].Bytes[0] = 9
	x.Kids[0].Bytes = append(x.Kids[0].Bytes, 7, 7, 7)
	if !bytes.Equal(b, kept) {
		t.Error("what was handed in is turned")
	}
}
