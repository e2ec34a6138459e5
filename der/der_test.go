package der_test

import (
	"bytes"
	"encoding/asn1"
	"encoding/hex"
	"math"
	"math/rand"
	"sort"
	"testing"

	"postmark/api"
	"postmark/der"
	"postmark/sample"
	"postmark/tree"
)

func seq(kids ...api.Node) api.Node { return tree.Cons(api.Universal, api.TagSeq, kids...) }

func set(kids ...api.Node) api.Node { return tree.Cons(api.Universal, api.TagSet, kids...) }

func bytesOf(size int) api.Node {
	return tree.Prim(api.Universal, api.TagBytes, make([]byte, size))
}

// model writes a tree, its sets as they stand, by the library.
func model(t api.Node) []byte {
	v := asn1.RawValue{Class: t.Class, Tag: t.Tag, IsCompound: t.Cons, Bytes: t.Bytes}
	for _, kid := range t.Kids {
		v.Bytes = append(v.Bytes, model(kid)...)
	}
	b, err := asn1.Marshal(v)
	if err != nil {
		panic(err)
	}
	return b
}

// sorted is a tree with its sets in order, by the library's sorting.
func sorted(t api.Node) api.Node {
	t = tree.Copy(t)
	for i := range t.Kids {
		t.Kids[i] = sorted(t.Kids[i])
	}
	if t.Class == 0 && t.Tag == api.TagSet {
		sort.SliceStable(t.Kids, func(i, j int) bool { return bytes.Compare(model(t.Kids[i]), model(t.Kids[j])) < 0 })
	}
	return t
}

func TestLength(t *testing.T) {
	for _, x := range []struct {
		n    int
		want string
	}{{0, "00"}, {127, "7f"}, {128, "8180"}, {255, "81ff"}, {256, "820100"}, {65535, "82ffff"}, {65536, "83010000"}, {1 << 24, "8401000000"}, {math.MaxInt, "887fffffffffffffff"}, {-1, ""}, {math.MinInt, ""}} {
		if b := der.Length(x.n); hex.EncodeToString(b) != x.want {
			t.Errorf("%d: %x", x.n, b)
		}
	}
}

func TestEncodeExamples(t *testing.T) {
	for i, x := range []struct {
		t    api.Node
		want string
		e    api.Errno
	}{
		{tree.Int(5), "020105", api.OK}, {seq(tree.Int(5), tree.Prim(0, 5, nil)), "30050201050500", api.OK}, {set(tree.Int(6), tree.Int(5)), "", api.ErrOrder}, {set(tree.Int(5), tree.Int(6)), "3106020105020106", api.OK}, {set(tree.Int(5), tree.Int(5)), "3106020105020105", api.OK}, {set(), "3100", api.OK},
		{tree.Prim(2, 3, []byte("a")), "830161", api.OK}, {tree.Cons(2, 3, tree.Int(1)), "a303020101", api.OK}, {tree.Prim(1, 30, nil), "5e00", api.OK}, {tree.Cons(3, 0), "e000", api.OK},
		{tree.Cons(2, 17, tree.Int(6), tree.Int(5)), "b106020106020105", api.OK}, {seq(tree.Int(6), tree.Int(5)), "3006020106020105", api.OK},
		{seq(set(tree.Int(6), tree.Int(5))), "", api.ErrOrder}, {tree.Cons(2, 0, seq(set(tree.Int(6), tree.Int(5)))), "", api.ErrOrder}, {set(set(tree.Int(6), tree.Int(5))), "", api.ErrOrder}, {set(tree.Int(5), tree.Int(-1), tree.Int(6)), "", api.ErrOrder}, {set(tree.Int(300), tree.Int(5)), "", api.ErrOrder}, {set(tree.Int(5), tree.Prim(0, 1, []byte{0})), "", api.ErrOrder},
		{api.Node{}, "", api.ErrTree}, {set(tree.Int(6), tree.Int(5), api.Node{}), "", api.ErrTree}, {tree.Prim(0, 2, nil), "", api.ErrTree},
		{set(bytesOf(70000), tree.Int(5)), "", api.ErrLong}, {seq(bytesOf(70000), api.Node{}), "", api.ErrTree},
	} {
		b, e := der.Encode(x.t)
		if hex.EncodeToString(b) != x.want || e != x.e {
			t.Errorf("%d: %x %v", i, b, e)
		}
		n, e := der.Size(x.t)
		if x.e == api.OK && (e != api.OK || n != len(x.want)/2) || x.e == api.ErrOrder && e != api.OK || x.e != api.ErrOrder && e != x.e || e != api.OK && n != 0 {
			t.Error(i, n, e)
		}
	}
}

// TestTheGreatest goes to where a tree has as many bytes as it may have, and beyond.
func TestTheGreatest(t *testing.T) {
	for i, x := range []struct {
		t    api.Node
		size int
		e    api.Errno
	}{{bytesOf(65532), 65536, api.OK}, {bytesOf(65533), 0, api.ErrLong}, {bytesOf(1 << 20), 0, api.ErrLong}, {seq(bytesOf(65528)), 65536, api.OK}, {seq(bytesOf(65529)), 0, api.ErrLong}, {set(bytesOf(32762), bytesOf(32762)), 65536, api.OK}, {set(bytesOf(32762), bytesOf(32763)), 0, api.ErrLong}} {
		if n, e := der.Size(x.t); n != x.size || e != x.e {
			t.Error(i, n, e)
		}
		if b, e := der.Encode(x.t); len(b) != x.size || e != x.e {
			t.Error(i, len(b), e)
		}
		if s, e := der.Sorted(x.t); e != x.e || !tree.Same(s, x.t) && e == api.OK || e != api.OK && !tree.Same(s, api.Node{}) {
			t.Error(i, e)
		}
	}
}

func TestAgainstModel(t *testing.T) {
	r := rand.New(rand.NewSource(1))
	falls := 0
	for range 4000 {
		x := sample.Tree(r.Intn, 5)
		want := sorted(x)
		b, e := der.Encode(x)
		if tree.Same(want, x) != (e == api.OK) || e != api.OK && e != api.ErrOrder || e == api.OK && !bytes.Equal(b, model(x)) {
			t.Fatal(x, b, e)
		}
		if e == api.ErrOrder {
			falls++
		}
		s, e := der.Sorted(x)
		if e != api.OK || !tree.Same(s, want) {
			t.Fatal(x, s, e)
		}
		b, e = der.Encode(s)
		if e != api.OK || !bytes.Equal(b, model(want)) {
			t.Fatal(x, b, e)
		}
		size, e := der.Size(x)
		if again, f := der.Size(s); e != api.OK || f != api.OK || size != len(b) || again != len(b) {
			t.Fatal(x, size, again)
		}
		if again, e := der.Sorted(s); e != api.OK || !tree.Same(again, s) {
			t.Fatal("turned by sorting again", x)
		}
		turned, _ := der.Sorted(mixed(r, x))
		if c, _ := der.Encode(turned); !bytes.Equal(c, b) {
			t.Fatal("hangs on the order", x)
		}
		y, _ := der.Sorted(sample.Tree(r.Intn, 2))
		z, _ := der.Sorted(sample.Tree(r.Intn, 2))
		n, e := der.Cmp(y, z)
		if e != api.OK || n != bytes.Compare(model(y), model(z)) || (n == 0) != tree.Same(y, z) {
			t.Fatal(y, z, n, e)
		}
	}
	if falls < 100 {
		t.Error("few sets out of order", falls)
	}
}

// mixed is a tree whose sets' kids stand in another order.
func mixed(r *rand.Rand, t api.Node) api.Node {
	t = tree.Copy(t)
	for i := range t.Kids {
		t.Kids[i] = mixed(r, t.Kids[i])
	}
	if t.Class == 0 && t.Tag == api.TagSet {
		r.Shuffle(len(t.Kids), func(i, j int) { t.Kids[i], t.Kids[j] = t.Kids[j], t.Kids[i] })
	}
	return t
}

func TestSorted(t *testing.T) {
	for i, x := range []struct{ t, want api.Node }{
		{set(tree.Int(6), tree.Int(5)), set(tree.Int(5), tree.Int(6))},
		{set(set(tree.Int(9), tree.Int(1)), set(tree.Int(3), tree.Int(2))), set(set(tree.Int(1), tree.Int(9)), set(tree.Int(2), tree.Int(3)))},
		{tree.Cons(2, 17, set(tree.Int(6), tree.Int(5)), tree.Int(1)), tree.Cons(2, 17, set(tree.Int(5), tree.Int(6)), tree.Int(1))},
		{seq(tree.Int(6), tree.Int(5)), seq(tree.Int(6), tree.Int(5))},
		{set(tree.Int(6), tree.Int(-1), tree.Int(6), tree.Prim(2, 0, nil), tree.Int(300)), set(tree.Int(6), tree.Int(6), tree.Int(-1), tree.Int(300), tree.Prim(2, 0, nil))},
	} {
		if s, e := der.Sorted(x.t); e != api.OK || !tree.Same(s, x.want) {
			t.Error(i, s, e)
		}
	}
	if s, e := der.Sorted(set(api.Node{})); e != api.ErrTree || !tree.Same(s, api.Node{}) {
		t.Error(s, e)
	}
}

func TestCmpWrong(t *testing.T) {
	fine, broken, fallen, long := tree.Int(1), api.Node{}, set(tree.Int(2), tree.Int(1)), bytesOf(70000)
	for i, x := range []struct {
		a, b api.Node
		n    int
		e    api.Errno
	}{{fine, broken, 0, api.ErrTree}, {fallen, broken, 0, api.ErrOrder}, {broken, fallen, 0, api.ErrTree}, {long, broken, 0, api.ErrLong}, {fine, fallen, 0, api.ErrOrder}, {fine, long, 0, api.ErrLong}, {fine, tree.Int(2), -1, api.OK}, {tree.Int(2), fine, 1, api.OK}, {fine, fine, 0, api.OK}} {
		if n, e := der.Cmp(x.a, x.b); n != x.n || e != x.e {
			t.Error(i, n, e)
		}
	}
}

func TestMemory(t *testing.T) {
	x := set(tree.Int(6), tree.Int(5), tree.Prim(2, 1, []byte{8}))
	kept := tree.Copy(x)
	s, _ := der.Sorted(x)
	if !tree.Same(x, kept) {
		t.Error("sorted in its place")
	}
	s.Kids[0].Bytes[0], s.Kids[1].Tag = 9, 9
	p := tree.Prim(2, 1, []byte{8})
	b, _ := der.Encode(p)
	clear(b)
	if !tree.Same(x, kept) || p.Bytes[0] != 8 {
		t.Error(x, p)
	}
	plain := tree.Prim(2, 1, []byte{8})
	if s, _ := der.Sorted(plain); &s.Bytes[0] == &plain.Bytes[0] {
		t.Error("bytes are shared")
	}
}
