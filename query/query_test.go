package query_test

import (
	"bytes"
	"encoding/hex"
	"math"
	"math/rand"
	"strings"
	"testing"

	"postmark/api"
	"postmark/cert"
	"postmark/der"
	"postmark/mask"
	"postmark/query"
	"postmark/sample"
	"postmark/strict"
	"postmark/tree"
)

var (
	hashes   = []api.Hash{api.Sha256, api.Sha512}
	policies = [][]byte{{0x2a, 3}, {0x2a, 4}}
	empty    = api.Node{}
)

func seq(kids ...api.Node) api.Node { return tree.Cons(api.Universal, api.TagSeq, kids...) }

func prim(tag int, b ...byte) api.Node { return tree.Prim(api.Universal, tag, b) }

func same(a, b api.Query) bool {
	if len(a.Exts) != len(b.Exts) {
		return false
	}
	for i, x := range a.Exts {
		if y := b.Exts[i]; !bytes.Equal(x.Oid, y.Oid) || x.Critical != y.Critical || !bytes.Equal(x.Value, y.Value) {
			return false
		}
	}
	return a.Imprint.Hash == b.Imprint.Hash && a.Imprint.Null == b.Imprint.Null && bytes.Equal(a.Imprint.Digest, b.Imprint.Digest) && bytes.Equal(a.Policy, b.Policy) && bytes.Equal(a.Nonce, b.Nonce) && a.Cert == b.Cert
}

// whole is a query that asks for everything.
func whole() api.Query {
	q := sample.Query()
	q.Policy, q.Nonce, q.Cert = []byte{0x2a, 3}, []byte{0, 200}, true
	q.Exts = []api.Ext{{Oid: []byte{0x2a, 9}, Value: []byte{1}}, {Oid: []byte{0x2a, 8}, Critical: true}}
	return q
}

func TestWrite(t *testing.T) {
	zeros := strings.Repeat("00", 32)
	q := api.Query{Imprint: api.Imprint{Hash: api.Sha256, Null: true, Digest: make([]byte, 32)}, Cert: true}
	b, e := query.Write(q)
	if want := "30390201013031300d0609608648016503040201050004" + "20" + zeros + "0101ff"; e != api.OK || hex.EncodeToString(b) != want {
		t.Errorf("%x %v", b, e)
	}
	w := whole()
	imprint, _ := cert.BuildImprint(w.Imprint)
	want := seq(tree.Int(1), imprint, prim(6, 0x2a, 3), prim(2, 0, 200), prim(1, 255), tree.Cons(2, 0, seq(prim(6, 0x2a, 9), prim(4, 1)), seq(prim(6, 0x2a, 8), prim(1, 255), prim(4))))
	got, e := query.Build(w)
	if e != api.OK || !tree.Same(got, want) {
		t.Error(got, e)
	}
	b, e = query.Write(w)
	if form, _ := der.Encode(want); e != api.OK || !bytes.Equal(b, form) {
		t.Error(b, e)
	}
	if back, e := query.Read(want); e != api.OK || !same(back, w) {
		t.Error(back, e)
	}
}

// TestMayBe goes through what keeps a query from being.
func TestMayBe(t *testing.T) {
	exts := func(n int) []api.Ext {
		var l []api.Ext
		for i := range n {
			l = append(l, api.Ext{Oid: []byte{0x2a, byte(i)}, Critical: i%2 == 0, Value: []byte{byte(i)}})
		}
		return l
	}
	for i, x := range []struct {
		turn     func(q *api.Query)
		check, e api.Errno
	}{
		{func(q *api.Query) {}, api.OK, api.OK}, {func(q *api.Query) { *q = api.Query{} }, api.ErrQuery, api.ErrQuery}, {func(q *api.Query) { q.Imprint.Hash = 0 }, api.ErrQuery, api.ErrQuery}, {func(q *api.Query) { q.Imprint.Digest = nil }, api.ErrQuery, api.ErrQuery}, {func(q *api.Query) { q.Imprint.Null = false }, api.OK, api.OK}, {func(q *api.Query) { q.Imprint = api.Imprint{Hash: api.Sha384, Digest: make([]byte, 48)} }, api.OK, api.OK},
		{func(q *api.Query) { q.Policy = nil }, api.OK, api.OK}, {func(q *api.Query) { q.Policy = []byte{1} }, api.OK, api.OK}, {func(q *api.Query) { q.Exts = q.Exts[:1] }, api.OK, api.OK}, {func(q *api.Query) { q.Policy = []byte{128} }, api.ErrQuery, api.ErrQuery}, {func(q *api.Query) { q.Policy = []byte{0x80} }, api.ErrQuery, api.ErrQuery}, {func(q *api.Query) { q.Policy = []byte{0x2a, 0x80, 1} }, api.ErrQuery, api.ErrQuery}, {func(q *api.Query) { q.Policy = bytes.Repeat([]byte{1}, 100) }, api.OK, api.OK},
		{func(q *api.Query) { q.Nonce = nil }, api.OK, api.OK}, {func(q *api.Query) { q.Nonce = []byte{0} }, api.OK, api.OK}, {func(q *api.Query) { q.Nonce = []byte{200} }, api.OK, api.OK}, {func(q *api.Query) { q.Nonce = []byte{0, 1} }, api.ErrQuery, api.ErrQuery}, {func(q *api.Query) { q.Nonce = []byte{255, 255} }, api.ErrQuery, api.ErrQuery}, {func(q *api.Query) { q.Nonce = bytes.Repeat([]byte{7}, 32) }, api.OK, api.OK}, {func(q *api.Query) { q.Nonce = bytes.Repeat([]byte{7}, 33) }, api.ErrQuery, api.ErrQuery},
		{func(q *api.Query) { q.Cert = false }, api.OK, api.OK}, {func(q *api.Query) { q.Exts = nil }, api.OK, api.OK}, {func(q *api.Query) { q.Exts = exts(20) }, api.OK, api.OK}, {func(q *api.Query) { q.Exts = exts(21) }, api.ErrQuery, api.ErrQuery}, {func(q *api.Query) { q.Exts = append(exts(3), exts(1)...) }, api.ErrQuery, api.ErrQuery}, {func(q *api.Query) { q.Exts = []api.Ext{{}} }, api.ErrQuery, api.ErrQuery}, {func(q *api.Query) { q.Exts = append(exts(2), api.Ext{Oid: []byte{0x80}}) }, api.ErrQuery, api.ErrQuery},
		{func(q *api.Query) { q.Exts[0].Value = make([]byte, 70000) }, api.OK, api.ErrLong}, {func(q *api.Query) { q.Exts[0].Value = make([]byte, 65000) }, api.OK, api.OK}, {func(q *api.Query) { q.Policy = bytes.Repeat([]byte{1}, 70000) }, api.OK, api.ErrLong}, {func(q *api.Query) { q.Exts[0].Value, q.Nonce = make([]byte, 70000), []byte{0, 1} }, api.ErrQuery, api.ErrQuery},
	} {
		q := whole()
		x.turn(&q)
		if e := query.Check(q); e != x.check {
			t.Error(i, e)
		}
		got, e := query.Build(q)
		if e != x.e || e != api.OK && !tree.Same(got, empty) {
			t.Error(i, e)
		}
		b, e := query.Write(q)
		if e != x.e || (b == nil) != (e != api.OK) {
			t.Error(i, e)
		}
		if e != api.OK {
			continue
		}
		if back, e := query.Read(got); e != api.OK || !same(back, q) {
			t.Error(i, back, e)
		}
		if form, e := der.Encode(got); e != api.OK || !bytes.Equal(form, b) {
			t.Error(i, e)
		}
	}
}

func TestRead(t *testing.T) {
	r := rand.New(rand.NewSource(1))
	read := 0
	for _, q := range []api.Query{whole(), sample.Query()} {
		x, _ := query.Build(q)
		for range 4000 {
			turned := sample.Turned(r.Intn, x)
			back, e := query.Read(turned)
			if e != api.OK {
				if e != api.ErrQuery || !same(back, api.Query{}) {
					t.Fatal(turned, back, e)
				}
				continue
			}
			read++
			if again, e := query.Build(back); e != api.OK || !tree.Same(again, turned) || same(back, q) != tree.Same(turned, x) {
				t.Fatal(turned, back, e)
			}
		}
	}
	if read < 200 {
		t.Error("few that are read", read)
	}
}

// model is what is wrong with a tree, row by row.
func model(t api.Node) int {
	is := func(t api.Node, tag int) bool { return t.Class == 0 && t.Tag == tag }
	if !is(t, 16) || len(t.Kids) < 2 || !is(t.Kids[0], 2) {
		return api.FailData
	}
	imprint := t.Kids[1]
	if !is(imprint, 16) || len(imprint.Kids) != 2 || !is(imprint.Kids[1], 4) || !is(imprint.Kids[0], 16) || len(imprint.Kids[0].Kids) < 1 || len(imprint.Kids[0].Kids) > 2 || !is(imprint.Kids[0].Kids[0], 6) {
		return api.FailData
	}
	rest := t.Kids[2:]
	var policy []byte
	exts := false
	if len(rest) > 0 && is(rest[0], 6) {
		policy, rest = rest[0].Bytes, rest[1:]
	}
	if len(rest) > 0 && is(rest[0], 2) && len(rest[0].Bytes) <= 32 {
		rest = rest[1:]
	}
	if len(rest) > 0 && is(rest[0], 1) && rest[0].Bytes[0] == 255 {
		rest = rest[1:]
	}
	if len(rest) > 0 && rest[0].Class == 2 && rest[0].Tag == 0 && len(rest[0].Kids) > 0 {
		for _, x := range rest[0].Kids {
			plain := len(x.Kids) == 2 && is(x.Kids[0], 6) && is(x.Kids[1], 4)
			critical := len(x.Kids) == 3 && is(x.Kids[0], 6) && is(x.Kids[1], 1) && x.Kids[1].Bytes[0] == 255 && is(x.Kids[2], 4)
			if !is(x, 16) || !plain && !critical {
				return api.FailData
			}
		}
		exts, rest = true, rest[1:]
	}
	if len(rest) > 0 {
		return api.FailData
	}
	h, _, e := cert.ReadHashAlg(imprint.Kids[0])
	switch {
	case !bytes.Equal(t.Kids[0].Bytes, []byte{1}):
		return api.FailRequest
	case e != api.OK || h != api.Sha256 && h != api.Sha512:
		return api.FailAlg
	case len(imprint.Kids[1].Bytes) != mask.Size(h):
		return api.FailData
	case policy != nil && string(policy) != "\x2a\x03" && string(policy) != "\x2a\x04":
		return api.FailPolicy
	case exts:
		return api.FailExt
	}
	return api.FailNone
}

// TestJudgeAgainstModel turns queries' trees, writes them, and judges.
func TestJudgeAgainstModel(t *testing.T) {
	r := rand.New(rand.NewSource(2))
	seen := map[int]int{}
	for range 20000 {
		q := whole()
		for _, drop := range []func(){func() { q.Exts = nil }, func() { q.Exts = nil }, func() { q.Policy = nil }, func() { q.Policy = []byte{0x2a, 5} }, func() { q.Nonce = nil }, func() { q.Cert = false }, func() { q.Imprint = api.Imprint{Hash: api.Sha384, Digest: make([]byte, 48)} }, func() { q.Imprint.Null = false }} {
			if r.Intn(4) == 0 {
				drop()
			}
		}
		x, _ := query.Build(q)
		for range r.Intn(3) {
			x = sample.Turned(r.Intn, x)
		}
		b, e := der.Encode(x)
		if e != api.OK {
			continue
		}
		got, fail := query.Judge(b, hashes, policies)
		if want := model(x); fail != want {
			t.Fatalf("%+v: %d, not %d", x, fail, want)
		}
		seen[fail]++
		if fail != api.FailNone {
			if !same(got, api.Query{}) {
				t.Fatal(got, fail)
			}
			continue
		}
		if again, e := query.Write(got); e != api.OK || !bytes.Equal(again, b) {
			t.Fatal(got, e)
		}
	}
	for _, fail := range []int{api.FailNone, api.FailAlg, api.FailRequest, api.FailData, api.FailPolicy, api.FailExt} {
		if seen[fail] < 50 {
			t.Error("few of a fail", fail, seen[fail])
		}
	}
}

// TestJudge goes through the rows, each with those behind it.
func TestJudge(t *testing.T) {
	b, _ := query.Write(api.Query{Imprint: api.Imprint{Hash: api.Sha256, Null: true, Digest: make([]byte, 32)}, Cert: true})
	two := bytes.Clone(b)
	two[4] = 2
	no := append(bytes.Clone(b[:len(b)-1]), 0)
	for i, x := range []struct {
		b      []byte
		hashes []api.Hash
		fail   int
	}{{b, hashes, api.FailNone}, {b, nil, api.FailAlg}, {b, []api.Hash{api.Sha512, 0, 9}, api.FailAlg}, {b[:len(b)-1], hashes, api.FailData}, {two, hashes, api.FailRequest}, {two, nil, api.FailRequest}, {no, hashes, api.FailData}, {nil, hashes, api.FailData}, {append(bytes.Clone(b), 0), hashes, api.FailData}, {make([]byte, 70000), hashes, api.FailData}, {append([]byte{0x30, 0x81}, b[1:]...), hashes, api.FailData}} {
		if q, fail := query.Judge(x.b, x.hashes, nil); fail != x.fail || (fail == api.FailNone) == same(q, api.Query{}) {
			t.Error(i, q, fail)
		}
	}
	x, _ := query.Build(whole())
	for i, y := range []struct {
		turn func(x *api.Node)
		fail int
	}{
		{func(x *api.Node) {}, api.FailExt}, {func(x *api.Node) { x.Kids = x.Kids[:5] }, api.FailNone}, {func(x *api.Node) { x.Kids = x.Kids[:2] }, api.FailNone}, {func(x *api.Node) { x.Kids = x.Kids[:1] }, api.FailData}, {func(x *api.Node) { x.Kids = nil }, api.FailData},
		{func(x *api.Node) { x.Kids[0] = tree.Int(-1) }, api.FailRequest}, {func(x *api.Node) { x.Kids[0] = prim(2, bytes.Repeat([]byte{1}, 99)...) }, api.FailRequest}, {func(x *api.Node) { x.Kids[0] = prim(10, 1) }, api.FailData},
		{func(x *api.Node) { x.Kids[0], x.Kids[1].Kids[0] = tree.Int(2), seq(prim(6, 1)) }, api.FailRequest}, {func(x *api.Node) { x.Kids[0], x.Kids[1].Kids[0] = tree.Int(2), seq() }, api.FailData}, {func(x *api.Node) { x.Kids[1].Kids[0] = seq(prim(6, 1), tree.Int(1)) }, api.FailAlg}, {func(x *api.Node) { x.Kids[1].Kids[0] = seq(prim(6, 1), prim(5), prim(5)) }, api.FailData}, {func(x *api.Node) { x.Kids[1].Kids[0].Kids[1] = tree.Int(1) }, api.FailAlg}, {func(x *api.Node) { x.Kids[1].Kids[0].Kids = x.Kids[1].Kids[0].Kids[:1] }, api.FailExt}, {func(x *api.Node) { x.Kids[1].Kids[0] = prim(6, 1) }, api.FailData}, {func(x *api.Node) { x.Kids[1].Kids[0].Class = 2 }, api.FailData}, {func(x *api.Node) { x.Kids[1].Kids = x.Kids[1].Kids[:1] }, api.FailData}, {func(x *api.Node) { x.Kids[1].Kids = append(x.Kids[1].Kids, prim(5)) }, api.FailData}, {func(x *api.Node) { x.Kids[1].Kids[1] = prim(12) }, api.FailData}, {func(x *api.Node) { x.Kids[1].Class = 1 }, api.FailData},
		{func(x *api.Node) { x.Kids[1].Kids[1] = prim(4, 1) }, api.FailData}, {func(x *api.Node) { x.Kids[1].Kids[0], x.Kids[1].Kids[1] = seq(prim(6, 1)), prim(4, 1) }, api.FailAlg}, {func(x *api.Node) { x.Kids[2] = prim(6, 0x2a, 9) }, api.FailPolicy}, {func(x *api.Node) { x.Kids[1].Kids[1], x.Kids[2] = prim(4, 1), prim(6, 0x2a, 9) }, api.FailData},
		{func(x *api.Node) { x.Kids[3] = prim(2, bytes.Repeat([]byte{1}, 33)...) }, api.FailData}, {func(x *api.Node) { x.Kids[3] = prim(2, bytes.Repeat([]byte{1}, 32)...) }, api.FailExt}, {func(x *api.Node) { x.Kids[4] = prim(1, 0) }, api.FailData}, {func(x *api.Node) { x.Kids[2], x.Kids[3] = x.Kids[3], x.Kids[2] }, api.FailData}, {func(x *api.Node) { x.Kids[3], x.Kids[4] = x.Kids[4], x.Kids[3] }, api.FailData}, {func(x *api.Node) { x.Kids[4], x.Kids[5] = x.Kids[5], x.Kids[4] }, api.FailData}, {func(x *api.Node) { x.Kids = append(x.Kids, x.Kids[5]) }, api.FailData}, {func(x *api.Node) { x.Kids[5].Kids = nil }, api.FailData}, {func(x *api.Node) { x.Kids[5].Tag = 1 }, api.FailData}, {func(x *api.Node) { x.Kids[5] = tree.Prim(2, 0, nil) }, api.FailData},
		{func(x *api.Node) { x.Kids[5].Kids[1].Kids[1] = prim(1, 0) }, api.FailData}, {func(x *api.Node) { x.Kids[5].Kids[1].Kids = x.Kids[5].Kids[1].Kids[:2] }, api.FailData}, {func(x *api.Node) { x.Kids[5].Kids[1] = x.Kids[5].Kids[0] }, api.FailExt}, {func(x *api.Node) { x.Kids[5].Kids[0] = tree.Int(1) }, api.FailData}, {func(x *api.Node) {
			for range 40 {
				x.Kids[5].Kids = append(x.Kids[5].Kids, x.Kids[5].Kids[0])
			}
		}, api.FailExt},
	} {
		turned := tree.Copy(x)
		y.turn(&turned)
		b, e := der.Encode(turned)
		if e != api.OK || !strict.Is(b) {
			t.Error(i, e)
		}
		if _, fail := query.Judge(b, hashes, policies); fail != y.fail {
			t.Error(i, fail)
		}
	}
	q := whole()
	q.Exts = nil
	b, _ = query.Write(q)
	for i, y := range []struct {
		policies [][]byte
		fail     int
	}{{policies, api.FailNone}, {nil, api.FailPolicy}, {[][]byte{{0x2a}, {0x2a, 3, 1}, nil}, api.FailPolicy}, {[][]byte{{0x2a, 4}, {0x2a, 3}}, api.FailNone}} {
		if got, fail := query.Judge(b, hashes, y.policies); fail != y.fail || fail == api.FailNone && !same(got, q) {
			t.Error(i, fail)
		}
	}
	q.Policy = nil
	b, _ = query.Write(q)
	if got, fail := query.Judge(b, hashes, nil); fail != api.FailNone || !same(got, q) {
		t.Error(got, fail)
	}
}

func TestReason(t *testing.T) {
	want := map[int]string{api.FailAlg: "alg", api.FailRequest: "request", api.FailData: "data", api.FailTime: "time", api.FailPolicy: "policy", api.FailExt: "extension", api.FailSystem: "system"}
	for fail := -5; fail < 40; fail++ {
		if s := query.Reason(fail); s != want[fail] {
			t.Error(fail, s)
		}
	}
	if query.Reason(math.MaxInt) != "" || query.Reason(math.MinInt) != "" {
		t.Error("a reason of none")
	}
}

func TestMemory(t *testing.T) {
	q := whole()
	x, _ := query.Build(q)
	kept := tree.Copy(x)
	back, _ := query.Read(x)
	judged := whole()
	judged.Exts = nil
	b, _ := query.Write(judged)
	keptBytes := bytes.Clone(b)
	read, _ := query.Judge(b, hashes, policies)
	for _, l := range [][]byte{back.Imprint.Digest, back.Policy, back.Nonce, back.Exts[0].Oid, back.Exts[0].Value, read.Imprint.Digest, read.Policy, read.Nonce} {
		clear(l[:cap(l)])
	}
	if !tree.Same(x, kept) || !bytes.Equal(b, keptBytes) || policies[0][0] != 0x2a {
		t.Error("what is read shares memory with what was handed in")
	}
	for _, i := range []int{2, 3} {
		clear(x.Kids[i].Bytes)
	}
	clear(x.Kids[1].Kids[1].Bytes)
	clear(x.Kids[5].Kids[0].Kids[0].Bytes)
	if !same(q, whole()) {
		t.Error("a tree shares memory with its query")
	}
}
