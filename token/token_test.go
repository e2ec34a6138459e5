package token_test

import (
	"bytes"
	"encoding/hex"
	"math/rand"
	"testing"

	"postmark/api"
	"postmark/attr"
	"postmark/cert"
	"postmark/cms"
	"postmark/der"
	"postmark/mask"
	"postmark/oid"
	"postmark/sample"
	"postmark/token"
	"postmark/tree"
)

var empty = api.Node{}

func seq(kids ...api.Node) api.Node { return tree.Cons(api.Universal, api.TagSeq, kids...) }

func prim(tag int, b ...byte) api.Node { return tree.Prim(api.Universal, tag, b) }

// bare is a stamp in which nothing stands that need not.
func bare() api.Tst {
	return api.Tst{Policy: []byte{0x2a, 3}, Imprint: sample.Query().Imprint, Serial: []byte{1}}
}

func TestTree(t *testing.T) {
	x := sample.Tst()
	imprint, _ := cert.BuildImprint(x.Imprint)
	want := seq(tree.Int(1), prim(6, 0x2a, 3), imprint, prim(2, 0, 200), tree.Prim(0, 24, []byte("20000229000000.5Z")), seq(tree.Int(1), tree.Prim(2, 1, []byte{1, 0xf4})), prim(1, 255), prim(2, 0, 129), tree.Cons(2, 0, x.Tsa...), tree.Cons(2, 1, seq(prim(6, 0x2a, 9), prim(4, 1)), seq(prim(6, 0x2a, 8), prim(1, 255), prim(4))))
	got, e := token.Build(x)
	if e != api.OK || !tree.Same(got, want) {
		t.Error(got, e)
	}
	if back, e := token.Read(got); e != api.OK || !token.Same(back, x) {
		t.Error(back, e)
	}
	want = seq(tree.Int(1), prim(6, 0x2a, 3), imprint, prim(2, 1), tree.Prim(0, 24, []byte("19700101000000Z")))
	got, e = token.Build(bare())
	if e != api.OK || !tree.Same(got, want) {
		t.Error(got, e)
	}
	if back, e := token.Read(got); e != api.OK || !token.Same(back, bare()) {
		t.Error(back, e)
	}
	for i, y := range []struct {
		a    api.Accuracy
		want string
	}{{api.Accuracy{Seconds: 1, Micros: 500}, "3007020101810201f4"}, {api.Accuracy{Millis: 1}, "3003800101"}, {api.Accuracy{Millis: 128, Micros: 127}, "30078002008081017f"}, {api.Accuracy{Seconds: api.MaxSeconds}, "300602047fffffff"}, {api.Accuracy{Seconds: 200, Millis: 999, Micros: 999}, "300c020200c8800203e7810203e7"}} {
		x := bare()
		x.Exact, x.Accuracy = true, y.a
		got, _ := token.Build(x)
		if b, _ := der.Encode(got.Kids[5]); hex.EncodeToString(b) != y.want {
			t.Errorf("%d: %x", i, b)
		}
		if back, e := token.Read(got); e != api.OK || !token.Same(back, x) {
			t.Error(i, back, e)
		}
	}
}

// TestMayBe goes through what keeps a stamp from being.
func TestMayBe(t *testing.T) {
	exts := func(n int) []api.Ext {
		var l []api.Ext
		for i := range n {
			l = append(l, api.Ext{Oid: []byte{0x2a, byte(i)}, Critical: i%2 == 0, Value: []byte{byte(i)}})
		}
		return l
	}
	deep := func(n int) api.Node {
		x := tree.Int(1)
		for range n - 1 {
			x = seq(x)
		}
		return x
	}
	wide := func(n int) api.Node {
		x := seq()
		for range n - 1 {
			x.Kids = append(x.Kids, tree.Int(1))
		}
		return x
	}
	text := func(size int) api.Node { return tree.Prim(0, 4, make([]byte, size)) }
	for i, x := range []struct {
		turn func(x *api.Tst)
		e    api.Errno
	}{
		{func(x *api.Tst) {}, api.OK}, {func(x *api.Tst) { *x = api.Tst{} }, api.ErrToken}, {func(x *api.Tst) { x.Policy = nil }, api.ErrToken}, {func(x *api.Tst) { x.Policy = []byte{0x80} }, api.ErrToken}, {func(x *api.Tst) { x.Imprint.Hash = 0 }, api.ErrToken}, {func(x *api.Tst) { x.Imprint.Digest = nil }, api.ErrToken}, {func(x *api.Tst) { x.Imprint.Null = false }, api.OK},
		{func(x *api.Tst) { x.Serial = []byte{0} }, api.ErrToken}, {func(x *api.Tst) { x.Serial = nil }, api.ErrToken}, {func(x *api.Tst) { x.Serial = []byte{200} }, api.ErrToken}, {func(x *api.Tst) { x.Serial = []byte{128} }, api.ErrToken}, {func(x *api.Tst) { x.Serial = []byte{127} }, api.OK}, {func(x *api.Tst) { x.Nonce, x.Exts, x.Policy = []byte{9}, x.Exts[:1], []byte{1} }, api.OK}, {func(x *api.Tst) { x.Serial = []byte{0, 1} }, api.ErrToken}, {func(x *api.Tst) { x.Serial = bytes.Repeat([]byte{1}, 20) }, api.OK}, {func(x *api.Tst) { x.Serial = bytes.Repeat([]byte{1}, 21) }, api.ErrToken},
		{func(x *api.Tst) { x.Time = -1 }, api.ErrToken}, {func(x *api.Tst) { x.Time = 0 }, api.OK}, {func(x *api.Tst) { x.Time = api.MaxTime }, api.OK}, {func(x *api.Tst) { x.Time = api.MaxTime + 1 }, api.ErrToken},
		{func(x *api.Tst) { x.Exact = false }, api.ErrToken}, {func(x *api.Tst) { x.Accuracy = api.Accuracy{} }, api.ErrToken}, {func(x *api.Tst) { x.Exact, x.Accuracy = false, api.Accuracy{} }, api.OK}, {func(x *api.Tst) { x.Accuracy.Millis = 1000 }, api.ErrToken}, {func(x *api.Tst) { x.Accuracy.Millis = -1 }, api.ErrToken}, {func(x *api.Tst) { x.Accuracy.Seconds = api.MaxSeconds + 1 }, api.ErrToken}, {func(x *api.Tst) { x.Accuracy.Micros = 1000 }, api.ErrToken}, {func(x *api.Tst) { x.Accuracy = api.Accuracy{Micros: 1} }, api.OK}, {func(x *api.Tst) { x.Ordering = false }, api.OK},
		{func(x *api.Tst) { x.Nonce = nil }, api.OK}, {func(x *api.Tst) { x.Nonce = []byte{128} }, api.OK}, {func(x *api.Tst) { x.Nonce = []byte{0} }, api.OK}, {func(x *api.Tst) { x.Nonce = []byte{0, 1} }, api.ErrToken}, {func(x *api.Tst) { x.Nonce = bytes.Repeat([]byte{1}, 32) }, api.OK}, {func(x *api.Tst) { x.Nonce = bytes.Repeat([]byte{1}, 33) }, api.ErrToken},
		{func(x *api.Tst) { x.Tsa = nil }, api.OK}, {func(x *api.Tst) { x.Tsa = append(x.Tsa, x.Tsa...) }, api.ErrToken}, {func(x *api.Tst) { x.Tsa[0] = empty }, api.ErrToken}, {func(x *api.Tst) { x.Tsa[0] = tree.Int(1) }, api.OK}, {func(x *api.Tst) { x.Tsa[0] = tree.Cons(0, 17, tree.Int(2), tree.Int(1)) }, api.ErrToken}, {func(x *api.Tst) { x.Tsa[0] = deep(22) }, api.OK}, {func(x *api.Tst) { x.Tsa[0] = deep(23) }, api.ErrToken}, {func(x *api.Tst) { x.Tsa[0] = deep(25) }, api.ErrToken}, {func(x *api.Tst) { x.Tsa[0] = wide(3900) }, api.OK}, {func(x *api.Tst) { x.Tsa[0] = wide(3990) }, api.ErrToken}, {func(x *api.Tst) { x.Tsa[0] = text(66000) }, api.ErrToken}, {func(x *api.Tst) { x.Tsa[0] = text(65500) }, api.ErrLong}, {func(x *api.Tst) { x.Tsa[0], x.Exts[0].Value = wide(3990), make([]byte, 70000) }, api.ErrToken},
		{func(x *api.Tst) { x.Exts = nil }, api.OK}, {func(x *api.Tst) { x.Exts = exts(20) }, api.OK}, {func(x *api.Tst) { x.Exts = exts(21) }, api.ErrToken}, {func(x *api.Tst) { x.Exts = append(exts(3), exts(1)...) }, api.ErrToken}, {func(x *api.Tst) { x.Exts = []api.Ext{{}} }, api.ErrToken}, {func(x *api.Tst) { x.Exts = append(exts(1), api.Ext{Oid: []byte{0x80}}) }, api.ErrToken}, {func(x *api.Tst) { x.Exts[1].Value = make([]byte, 70000) }, api.ErrLong}, {func(x *api.Tst) { x.Policy = bytes.Repeat([]byte{1}, 70000) }, api.ErrLong}, {func(x *api.Tst) { x.Policy, x.Serial = bytes.Repeat([]byte{1}, 70000), nil }, api.ErrToken},
	} {
		y := sample.Tst()
		x.turn(&y)
		got, e := token.Build(y)
		if e != x.e || e != api.OK && !tree.Same(got, empty) {
			t.Error(i, e)
		}
		if made, f := token.Make(y, api.Seal{}, nil); e != api.OK && f != e || e == api.OK && f != api.ErrAttr || !tree.Same(made, empty) {
			t.Error(i, f)
		}
		if e != api.OK {
			continue
		}
		if back, e := token.Read(got); e != api.OK || !token.Same(back, y) {
			t.Error(i, back, e)
		}
	}
}

func TestRead(t *testing.T) {
	r := rand.New(rand.NewSource(1))
	read := 0
	for _, x := range []api.Tst{sample.Tst(), bare()} {
		built, _ := token.Build(x)
		for range 6000 {
			turned := sample.Turned(r.Intn, built)
			back, e := token.Read(turned)
			if e != api.OK {
				if e != api.ErrToken || !token.Same(back, api.Tst{}) {
					t.Fatal(turned, back, e)
				}
				continue
			}
			read++
			if again, e := token.Build(back); e != api.OK || !tree.Same(again, turned) || token.Same(back, x) != tree.Same(turned, built) {
				t.Fatal(turned, back, e)
			}
		}
	}
	if read < 200 {
		t.Error("few that are read", read)
	}
	built, _ := token.Build(sample.Tst())
	for i, turn := range []func(x *api.Node){
		func(x *api.Node) { *x = empty }, func(x *api.Node) { x.Kids = x.Kids[:4] }, func(x *api.Node) { x.Kids[0] = tree.Int(2) }, func(x *api.Node) { x.Kids[5] = seq() }, func(x *api.Node) { x.Kids[5] = seq(tree.Int(0)) }, func(x *api.Node) { x.Kids[5] = seq(tree.Prim(2, 0, []byte{0})) }, func(x *api.Node) {
			x.Kids[5] = seq(tree.Prim(2, 1, []byte{1}), tree.Prim(2, 0, []byte{1}))
		}, func(x *api.Node) { x.Kids[5] = seq(tree.Prim(2, 0, []byte{0, 1})) }, func(x *api.Node) { x.Kids[5] = seq(tree.Int(1 << 31)) }, func(x *api.Node) { x.Kids[5] = seq(tree.Int(-1)) }, func(x *api.Node) { x.Kids[5] = seq(tree.Prim(2, 0, []byte{3, 0xe8})) }, func(x *api.Node) { x.Kids[5] = seq(tree.Int(1), tree.Int(1)) }, func(x *api.Node) { x.Kids[5] = seq(tree.Prim(2, 2, []byte{1})) },
		func(x *api.Node) { x.Kids[6] = prim(1, 0) }, func(x *api.Node) { x.Kids[5], x.Kids[6] = x.Kids[6], x.Kids[5] }, func(x *api.Node) { x.Kids[8], x.Kids[9] = x.Kids[9], x.Kids[8] }, func(x *api.Node) { x.Kids[8].Kids = nil }, func(x *api.Node) { x.Kids[9].Kids = nil }, func(x *api.Node) { x.Kids = append(x.Kids, prim(5)) }, func(x *api.Node) { x.Kids[4] = tree.Prim(0, 24, []byte("20000229000000.5000001Z")) }, func(x *api.Node) { x.Kids[4] = tree.Prim(0, 24, []byte("19690101000000Z")) }, func(x *api.Node) { x.Kids[4] = tree.Prim(0, 23, []byte("000101000000Z")) },
	} {
		turned := tree.Copy(built)
		turn(&turned)
		if back, e := token.Read(turned); e != api.ErrToken || !token.Same(back, api.Tst{}) {
			t.Error(i, back, e)
		}
	}
}

func TestMakeAndOpen(t *testing.T) {
	k := sample.Large()
	for _, way := range []api.Way{api.Pkcs, api.Pss} {
		for h := api.Sha224; h <= api.Sha512; h++ {
			for _, with := range []bool{true, false} {
				x, s := sample.Tst(), sample.Seal(k)
				s.Way, s.Hash, s.With = way, h, with
				salt := bytes.Repeat([]byte{byte(h)}, mask.Size(h))
				id, _ := attr.Sign(s.Cert, h)
				own, _ := cert.Build(s.Cert)
				stamp, _ := token.Build(x)
				content, _ := der.Encode(stamp)
				data := api.Cms{Type: oid.Named("tstInfo"), Content: content, Signer: api.Signer{Issuer: s.Cert.Issuer, Serial: s.Cert.Serial, Hash: h, Null: true, Way: way, Attrs: api.Attrs{Cert: id, Time: api.NoTime}}}
				if with {
					data.Certs = []api.Node{own}
				}
				want, _ := cms.Sign(data, k, salt)
				wantTree, _ := cms.Build(want)
				got, e := token.Make(x, s, salt)
				if e != api.OK || !tree.Same(got, wantTree) {
					t.Fatal(way, h, with, e)
				}
				back, opened, e := token.Open(got)
				if e != api.OK || !token.Same(back, x) || !cms.Same(opened, want) || !cms.Verify(opened, k) || cms.Verify(opened, sample.Small()) {
					t.Fatal(way, h, with, e)
				}
			}
		}
	}
}

func TestMakeWrong(t *testing.T) {
	salt := make([]byte, 32)
	public := sample.Small()
	public.D = nil
	for i, x := range []struct {
		turn func(x *api.Tst, s *api.Seal)
		salt []byte
		e    api.Errno
	}{
		{func(x *api.Tst, s *api.Seal) {}, salt, api.OK}, {func(x *api.Tst, s *api.Seal) { x.Policy, s.Hash = nil, 0 }, salt, api.ErrToken}, {func(x *api.Tst, s *api.Seal) { s.Hash, s.Cert.Serial = 0, nil }, salt, api.ErrAttr}, {func(x *api.Tst, s *api.Seal) { s.Cert.Serial, s.Way = nil, 9 }, salt, api.ErrCert}, {func(x *api.Tst, s *api.Seal) { s.Cert.Sig = make([]byte, 70000) }, salt, api.ErrLong}, {func(x *api.Tst, s *api.Seal) { s.Way, s.Key = 9, public }, salt, api.ErrSigner}, {func(x *api.Tst, s *api.Seal) { s.Key = public }, nil, api.ErrKey}, {func(x *api.Tst, s *api.Seal) {}, nil, api.ErrSign}, {func(x *api.Tst, s *api.Seal) { s.Hash = api.Sha512 }, make([]byte, 64), api.ErrSign}, {func(x *api.Tst, s *api.Seal) { x.Exts[0].Value = make([]byte, 65100) }, salt, api.ErrLong}, {func(x *api.Tst, s *api.Seal) { s.Cert.Sig = make([]byte, 64800) }, salt, api.ErrLong},
	} {
		y, s := sample.Tst(), sample.Seal(sample.Small())
		x.turn(&y, &s)
		got, e := token.Make(y, s, x.salt)
		if e != x.e || e != api.OK && !tree.Same(got, empty) {
			t.Error(i, e)
		}
	}
}

func TestOpenWrong(t *testing.T) {
	good, _ := token.Make(sample.Tst(), sample.Seal(sample.Small()), make([]byte, 32))
	_, data, _ := token.Open(good)
	stamp, _ := token.Build(sample.Tst())
	other := tree.Copy(stamp)
	other.Kids[0] = tree.Int(2)
	otherBytes, _ := der.Encode(other)
	with := func(change func(x *api.Cms)) api.Node {
		x := data
		change(&x)
		built, e := cms.Build(x)
		if e != api.OK {
			t.Fatal(e)
		}
		return built
	}
	for i, x := range []api.Node{empty, stamp, tree.Int(1), good.Kids[1], with(func(x *api.Cms) { x.Type = oid.Named("data") }), with(func(x *api.Cms) { x.Content = nil }), with(func(x *api.Cms) { x.Content = []byte{5, 0} }), with(func(x *api.Cms) { x.Content = otherBytes }), with(func(x *api.Cms) { x.Content = append(bytes.Clone(x.Content), 0) }), with(func(x *api.Cms) { x.Content = x.Content[:20] })} {
		y, d, e := token.Open(x)
		if e != api.ErrToken || !token.Same(y, api.Tst{}) || !cms.Same(d, api.Cms{}) {
			t.Error(i, e)
		}
	}
	// A token is one also if nobody signed it: that is asked elsewhere.
	if x, _, e := token.Open(with(func(x *api.Cms) { x.Signer.Sig, x.Signer.Attrs.Type = nil, nil })); e != api.OK || !token.Same(x, sample.Tst()) {
		t.Error(e)
	}
}

func TestSame(t *testing.T) {
	for i, turn := range []func(x *api.Tst){
		func(x *api.Tst) { x.Policy = nil }, func(x *api.Tst) { x.Imprint.Hash = 3 }, func(x *api.Tst) { x.Imprint.Null = false }, func(x *api.Tst) { x.Imprint.Digest = nil }, func(x *api.Tst) { x.Serial = nil }, func(x *api.Tst) { x.Time++ }, func(x *api.Tst) { x.Exact = false }, func(x *api.Tst) { x.Accuracy.Millis = 4 }, func(x *api.Tst) { x.Ordering = false }, func(x *api.Tst) { x.Nonce = nil }, func(x *api.Tst) { x.Tsa = nil }, func(x *api.Tst) { x.Tsa[0].Tag = 5 }, func(x *api.Tst) { x.Exts = x.Exts[1:] }, func(x *api.Tst) { x.Exts[0].Critical = true }, func(x *api.Tst) { x.Exts[0].Value = nil }, func(x *api.Tst) { x.Exts[1].Oid = nil },
	} {
		x := sample.Tst()
		turn(&x)
		if token.Same(x, sample.Tst()) || token.Same(sample.Tst(), x) {
			t.Error(i)
		}
	}
	blank := api.Tst{Policy: []byte{}, Serial: []byte{}, Nonce: []byte{}, Tsa: []api.Node{}, Exts: []api.Ext{}, Imprint: api.Imprint{Digest: []byte{}}}
	if !token.Same(sample.Tst(), sample.Tst()) || !token.Same(blank, api.Tst{}) {
		t.Error("not the same")
	}
}

func TestMemory(t *testing.T) {
	x, s := sample.Tst(), sample.Seal(sample.Small())
	built, _ := token.Build(x)
	kept := tree.Copy(built)
	back, _ := token.Read(built)
	made, _ := token.Make(x, s, make([]byte, 32))
	keptToken := tree.Copy(made)
	opened, data, _ := token.Open(made)
	keptContent := bytes.Clone(data.Content)
	for _, y := range []api.Tst{back, opened} {
		for _, b := range [][]byte{y.Policy, y.Imprint.Digest, y.Serial, y.Nonce, y.Tsa[0].Kids[0].Bytes, y.Exts[0].Oid, y.Exts[0].Value} {
			clear(b[:cap(b)])
		}
	}
	if !bytes.Equal(data.Content, keptContent) {
		t.Error("a stamp shares memory with its data")
	}
	clear(data.Content)
	clear(data.Certs[0].Kids[2].Bytes)
	if !tree.Same(built, kept) || !tree.Same(made, keptToken) {
		t.Error("what is read shares memory with its tree")
	}
	for i := range built.Kids {
		clear(built.Kids[i].Bytes)
	}
	clear(built.Kids[8].Kids[0].Kids[0].Bytes)
	clear(built.Kids[9].Kids[0].Kids[0].Bytes)
	if !token.Same(x, sample.Tst()) {
		t.Error("a tree shares memory with its stamp")
	}
}
