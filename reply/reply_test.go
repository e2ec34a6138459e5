package reply_test

import (
	"bytes"
	"encoding/hex"
	"math"
	"math/rand"
	"strings"
	"testing"

	"postmark/api"
	"postmark/ber"
	"postmark/der"
	"postmark/reply"
	"postmark/sample"
	"postmark/tree"
)

var (
	empty = api.Node{}
	fails = []int{api.FailAlg, api.FailRequest, api.FailData, api.FailTime, api.FailPolicy, api.FailExt, api.FailSystem}
)

func seq(kids ...api.Node) api.Node { return tree.Cons(api.Universal, api.TagSeq, kids...) }

func set(kids ...api.Node) api.Node { return tree.Cons(api.Universal, api.TagSet, kids...) }

func prim(tag int, b ...byte) api.Node { return tree.Prim(api.Universal, tag, b) }

// five is a token that may be.
func five() api.Node { return seq(tree.Int(5)) }

func TestWrite(t *testing.T) {
	for i, x := range []struct {
		r    api.Reply
		want string
	}{
		{reply.Refused(api.FailAlg), "30093007020102030207" + "80"}, {reply.Refused(api.FailData), "30093007020102030202" + "04"}, {reply.Refused(api.FailSystem), "300c300a020102030506000000" + "40"}, {reply.Refused(api.FailRequest), "3009300702010203020520"}, {reply.Refused(api.FailTime), "300a30080201020303010002"}, {reply.Refused(api.FailPolicy), "300a30080201020303000001"}, {reply.Refused(api.FailExt), "300b3009020102030407000080"},
		{api.Reply{Status: 2, Fail: api.FailNone, Text: []string{"no"}}, "300b300902010230040c026e6f"}, {reply.Granted(five()), "300a30030201003003020105"}, {api.Reply{Status: 1, Fail: api.FailNone, Token: five(), Text: []string{"a", "é"}}, "3013300c02010130070c01610c02c3a93003020105"},
		{api.Reply{Status: 5, Fail: api.FailNone}, "30053003020105"}, {api.Reply{Status: 2, Fail: 5, Text: []string{"no"}}, "300f300d02010230040c026e6f03020204"},
	} {
		b, e := reply.Write(x.r)
		if e != api.OK || hex.EncodeToString(b) != x.want {
			t.Errorf("%d: %x %v", i, b, e)
		}
		if back, e := reply.Open(b); e != api.OK || !reply.Same(back, x.r) {
			t.Error(i, back, e)
		}
		built, e := reply.Build(x.r)
		if form, _ := der.Encode(built); e != api.OK || !bytes.Equal(form, b) {
			t.Error(i, e)
		}
		if back, e := reply.Read(built); e != api.OK || !reply.Same(back, x.r) {
			t.Error(i, back, e)
		}
	}
}

func TestGrantedAndRefused(t *testing.T) {
	r := reply.Granted(five())
	if r.Status != api.StatusGranted || r.Fail != api.FailNone || len(r.Text) != 0 || !tree.Same(r.Token, five()) {
		t.Error(r)
	}
	for _, fail := range append(fails, 3, -7) {
		r := reply.Refused(fail)
		if r.Status != api.StatusRejected || r.Fail != fail || len(r.Text) != 0 || !tree.Same(r.Token, empty) {
			t.Error(r)
		}
	}
}

// TestMayBe goes through what keeps a reply from being.
func TestMayBe(t *testing.T) {
	text := func(n int) []string { return []string{strings.Repeat("x", n)} }
	deep := func(n int) api.Node {
		x := tree.Int(1)
		for range n - 1 {
			x = seq(x)
		}
		return x
	}
	wide := func(n int) api.Node {
		x := seq()
		for range n - 1 {
			x.Kids = append(x.Kids, tree.Int(1))
		}
		return x
	}
	long := func(size int, kids ...api.Node) api.Node {
		return seq(append(kids, tree.Prim(0, 4, make([]byte, size)))...)
	}
	mixed := set(tree.Int(2), tree.Int(1))
	for i, x := range []struct {
		r api.Reply
		e api.Errno
	}{
		{api.Reply{Status: 0, Fail: -1}, api.ErrReply}, {api.Reply{Status: 1, Fail: -1}, api.ErrReply}, {api.Reply{Status: 2, Fail: -1}, api.OK}, {api.Reply{Status: 3, Fail: -1}, api.OK}, {api.Reply{Status: 5, Fail: -1}, api.OK}, {api.Reply{Status: 6, Fail: -1}, api.ErrReply}, {api.Reply{Status: -1, Fail: -1}, api.ErrReply}, {api.Reply{Status: -1, Fail: -1, Token: five()}, api.ErrReply}, {api.Reply{Status: math.MaxInt, Fail: -1}, api.ErrReply},
		{api.Reply{Status: 0, Fail: -1, Token: five()}, api.OK}, {api.Reply{Status: 1, Fail: -1, Token: five()}, api.OK}, {api.Reply{Status: 2, Fail: -1, Token: five()}, api.ErrReply}, {api.Reply{Status: 4, Fail: -1, Token: five()}, api.ErrReply}, {api.Reply{Status: 2, Fail: -1, Token: api.Node{Tag: 1}}, api.ErrReply}, {api.Reply{Status: 2, Fail: -1, Token: api.Node{Cons: true}}, api.ErrReply}, {api.Reply{Status: 2, Fail: -1, Token: api.Node{Bytes: []byte{}, Kids: []api.Node{}}}, api.OK},
		{api.Reply{Status: 0, Fail: 0, Token: five()}, api.ErrReply}, {api.Reply{Status: 1, Fail: 5, Token: five()}, api.ErrReply}, {api.Reply{Status: 3, Fail: 5}, api.ErrReply}, {api.Reply{Status: 2, Fail: 3}, api.ErrReply}, {api.Reply{Status: 2, Fail: 26}, api.ErrReply}, {api.Reply{Status: 2, Fail: -2}, api.ErrReply}, {api.Reply{Status: 2, Fail: 24}, api.ErrReply}, {reply.Refused(3), api.ErrReply}, {api.Reply{Status: 2, Fail: 1}, api.ErrReply},
		{api.Reply{Status: 2, Fail: -1, Text: []string{""}}, api.ErrReply}, {api.Reply{Status: 2, Fail: -1, Text: []string{"a", ""}}, api.ErrReply}, {api.Reply{Status: 2, Fail: -1, Text: text(200)}, api.OK}, {api.Reply{Status: 2, Fail: -1, Text: text(201)}, api.ErrReply}, {api.Reply{Status: 2, Fail: -1, Text: []string{"\xff"}}, api.ErrReply}, {api.Reply{Status: 2, Fail: -1, Text: []string{"a", "b", "c", "d"}}, api.OK}, {api.Reply{Status: 2, Fail: -1, Text: []string{"a", "b", "c", "d", "e"}}, api.ErrReply}, {api.Reply{Status: 2, Fail: -1, Text: []string{}}, api.OK}, {api.Reply{Status: 0, Fail: -1, Token: five(), Text: []string{"a", "\xc3"}}, api.ErrReply},
		{reply.Granted(empty), api.ErrReply}, {reply.Granted(tree.Int(5)), api.ErrReply}, {reply.Granted(set(tree.Int(5))), api.ErrReply}, {reply.Granted(tree.Cons(2, 16)), api.ErrReply}, {reply.Granted(seq()), api.OK}, {reply.Granted(seq(prim(2))), api.ErrReply}, {reply.Granted(seq(mixed)), api.ErrReply},
		{reply.Granted(long(65000)), api.OK}, {reply.Granted(long(65525)), api.ErrLong}, {reply.Granted(long(70000)), api.ErrLong}, {reply.Granted(long(65000, mixed)), api.ErrReply}, {reply.Granted(long(65525, mixed)), api.ErrLong}, {reply.Granted(long(70000, mixed)), api.ErrLong}, {reply.Granted(long(70000, prim(2))), api.ErrReply}, {api.Reply{Status: 0, Fail: -1, Token: long(70000), Text: []string{""}}, api.ErrReply},
		{reply.Granted(deep(23)), api.OK}, {reply.Granted(deep(24)), api.ErrReply}, {reply.Granted(deep(25)), api.ErrReply}, {reply.Granted(long(70000, deep(22))), api.ErrLong}, {reply.Granted(long(70000, deep(23))), api.ErrReply}, {reply.Granted(wide(3997)), api.OK}, {reply.Granted(wide(3998)), api.ErrReply}, {reply.Granted(wide(4001)), api.ErrReply},
	} {
		got, e := reply.Build(x.r)
		if e != x.e || e != api.OK && !tree.Same(got, empty) {
			t.Error(i, e)
		}
		b, e := reply.Write(x.r)
		if e != x.e || (b == nil) != (e != api.OK) {
			t.Error(i, e)
		}
		if e != api.OK {
			continue
		}
		if back, e := reply.Read(got); e != api.OK || !reply.Same(back, x.r) {
			t.Error(i, back, e)
		}
	}
	// The longest one.
	for more := range 20 {
		b, e := reply.Write(reply.Granted(long(65510 + more)))
		if e == api.OK && (len(b) > api.MaxTree || len(b) < api.MaxTree-25) || e != api.OK && (e != api.ErrLong || b != nil) || more == 0 && e != api.OK || more == 19 && e == api.OK {
			t.Error(more, len(b), e)
		}
	}
}

func TestRead(t *testing.T) {
	r := rand.New(rand.NewSource(1))
	read := 0
	for _, x := range []api.Reply{{Status: 2, Fail: 25, Text: []string{"one", "two"}}, reply.Granted(seq(tree.Int(1), set(tree.Int(2), tree.Int(3)))), reply.Refused(api.FailExt)} {
		built, _ := reply.Build(x)
		for range 3000 {
			turned := sample.Turned(r.Intn, built)
			back, e := reply.Read(turned)
			if e != api.OK {
				if e != api.ErrReply || !reply.Same(back, api.Reply{}) {
					t.Fatal(turned, back, e)
				}
				continue
			}
			read++
			if again, e := reply.Build(back); e != api.OK || !tree.Same(again, turned) || reply.Same(back, x) != tree.Same(turned, built) {
				t.Fatal(turned, back, e)
			}
		}
	}
	if read < 200 {
		t.Error("few that are read", read)
	}
	for i, x := range []api.Node{empty, seq(), seq(seq()), tree.Int(1), seq(seq(tree.Int(2), prim(3, 0))), seq(seq(tree.Int(2), prim(3, 1, 4))), seq(seq(tree.Int(2), prim(3, 2, 12))), seq(seq(tree.Int(2), prim(3, 0, 4))), seq(seq(tree.Int(2), prim(3, 4, 16))), seq(seq(tree.Int(2), seq())), seq(seq(tree.Int(2), seq(prim(19, 'a')))), seq(seq(tree.Int(2), prim(3, 2, 4), seq(prim(12, 'a')))), seq(seq(prim(10, 2))), seq(seq(tree.Int(1<<33 + 2))), seq(seq(tree.Int(2)), seq()), seq(seq(tree.Int(0))), seq(seq(tree.Int(0)), five(), five()), seq(seq(tree.Int(0), prim(3, 7, 128)), five()), set(seq(tree.Int(2))), seq(set(tree.Int(2)))} {
		if back, e := reply.Read(x); e != api.ErrReply || !reply.Same(back, api.Reply{}) {
			t.Error(i, back, e)
		}
	}
}

func TestOpen(t *testing.T) {
	r := rand.New(rand.NewSource(2))
	for range 500 {
		x := api.Reply{Status: 1, Fail: -1, Token: seq(sample.Tree(r.Intn, 4)), Text: []string{"a text", "of two"}}
		sorted, _ := der.Sorted(x.Token)
		if r.Intn(3) == 0 {
			x = api.Reply{Status: 2, Fail: fails[r.Intn(7)]}
			sorted = empty
		}
		x.Token = sorted
		built, e := reply.Build(x)
		if e != api.OK {
			t.Fatal(e)
		}
		way := make([]byte, r.Intn(60))
		r.Read(way)
		b, _ := ber.Write(built, way)
		if back, e := reply.Open(b); e != api.OK || !reply.Same(back, x) {
			t.Fatalf("%x: %v %v", b, back, e)
		}
	}
	for i, x := range []struct {
		b []byte
		e api.Errno
	}{{nil, api.ErrBer}, {[]byte{0x30}, api.ErrBer}, {[]byte{2, 1, 5}, api.ErrReply}, {make([]byte, 65537), api.ErrLong}, {make([]byte, 65536), api.ErrBer}, {[]byte{0x30, 0x80, 0x30, 3, 2, 1, 3, 0, 0}, api.OK}, {[]byte{0x30, 0x80, 0x30, 3, 2, 1, 0, 0, 0}, api.ErrReply}} {
		if back, e := reply.Open(x.b); e != x.e || e != api.OK && !reply.Same(back, api.Reply{}) {
			t.Error(i, e)
		}
	}
}

func TestSame(t *testing.T) {
	base := func() api.Reply { return api.Reply{Status: 2, Fail: 5, Text: []string{"a", "b"}, Token: five()} }
	for i, turn := range []func(r *api.Reply){func(r *api.Reply) { r.Status = 1 }, func(r *api.Reply) { r.Fail = -1 }, func(r *api.Reply) { r.Text = r.Text[:1] }, func(r *api.Reply) { r.Text[1] = "c" }, func(r *api.Reply) { r.Token = empty }, func(r *api.Reply) { r.Token.Kids[0] = tree.Int(6) }} {
		r := base()
		turn(&r)
		if reply.Same(r, base()) || reply.Same(base(), r) {
			t.Error(i)
		}
	}
	if !reply.Same(base(), base()) || !reply.Same(api.Reply{Text: []string{}}, api.Reply{}) {
		t.Error("not the same")
	}
}

func TestMemory(t *testing.T) {
	token := seq(tree.Prim(0, 4, []byte("abc")))
	r := reply.Granted(token)
	built, _ := reply.Build(r)
	back, _ := reply.Read(built)
	back.Token.Kids[0].Bytes[0] = 'x'
	built.Kids[1].Kids[0].Bytes[1] = 'y'
	r.Token.Kids[0].Bytes[2] = 'z'
	if string(token.Kids[0].Bytes) != "abc" || string(r.Token.Kids[0].Bytes) != "abz" || string(built.Kids[1].Kids[0].Bytes) != "ayc" {
		t.Error("memory is shared")
	}
}
