package tree_test

import (
	"bytes"
	"math"
	"math/big"
	"math/rand"
	"regexp"
	"strings"
	"testing"
	"time"
	"unicode/utf8"

	"postmark/api"
	"postmark/tree"
)

func universal(tag int, b ...byte) api.Node { return tree.Prim(api.Universal, tag, b) }

func text(tag int, s string) api.Node { return tree.Prim(api.Universal, tag, []byte(s)) }

// chain is a tree that is so deep.
func chain(deep int) api.Node {
	t := tree.Int(1)
	for range deep - 1 {
		t = api.Node{Class: api.Context, Tag: 1, Cons: true, Kids: []api.Node{t}}
	}
	return t
}

// wide is a sequence with so many nodes in all.
func wide(nodes int) api.Node {
	t := api.Node{Tag: api.TagSeq, Cons: true}
	for range nodes - 1 {
		t.Kids = append(t.Kids, tree.Int(1))
	}
	return t
}

var (
	oid     = regexp.MustCompile(`^([\x00-\x7f]|[\x81-\xff][\x80-\xff]*[\x00-\x7f])+$`)
	printed = regexp.MustCompile(`^[A-Za-z0-9 '()+,\-./:=?]*$`)
	general = regexp.MustCompile(`^[0-9]{14}(\.[0-9]*[1-9])?Z$`)
	short   = regexp.MustCompile(`^[0-9]{12}Z$`)
)

// latin is bytes as runes of the same number, so that patterns take them one by one.
func latin(b []byte) string {
	var s strings.Builder
	for _, x := range b {
		s.WriteRune(rune(x))
	}
	return s.String()
}

// content says by other means whether bytes may be a tag's.
func content(tag int, b []byte) bool {
	switch tag {
	case api.TagBool:
		return len(b) == 1 && b[0]+1 <= 1
	case api.TagInt, api.TagEnum:
		return len(b) > 0 && bytes.Equal(twos(b), b)
	case api.TagBits:
		if len(b) < 2 {
			return len(b) == 1 && b[0] == 0
		}
		bits := new(big.Int).SetBytes(b[1:])
		return b[0] < 8 && (bits.Sign() == 0 || int(bits.TrailingZeroBits()) >= int(b[0]))
	case api.TagNull:
		return len(b) == 0
	case api.TagOid:
		return oid.MatchString(latin(b))
	case api.TagUtf8:
		return utf8.ValidString(string(b))
	case api.TagPrint:
		return printed.MatchString(latin(b))
	case api.TagIa5:
		return bytes.IndexFunc([]byte(latin(b)), func(r rune) bool { return r > 127 }) < 0
	case api.TagUtc:
		if !short.Match(b) {
			return false
		}
		if b[0] >= '5' {
			return isDate("19" + string(b))
		}
		return isDate("20" + string(b))
	case api.TagTime:
		return general.Match(b) && isDate(string(b))
	}
	return tag == api.TagBytes
}

// isDate says whether YYYYMMDDhhmmss is a time, by the library. Its years go round by 400, so that 0000 is asked as 2000.
func isDate(s string) bool {
	if strings.HasPrefix(s, "0000") {
		s = "2000" + s[4:]
	}
	at, err := time.Parse("20060102150405", s[:14])
	return err == nil && at.Format("20060102150405") == s[:14]
}

// twos is the shortest form of bytes in two's complement.
func twos(b []byte) []byte {
	n := new(big.Int).SetBytes(b)
	if b[0] >= 128 {
		n.Sub(n, new(big.Int).Lsh(big.NewInt(1), uint(8*len(b))))
	}
	for size := 1; ; size++ {
		half := new(big.Int).Lsh(big.NewInt(1), uint(8*size-1))
		if n.Cmp(half) < 0 && n.Cmp(new(big.Int).Neg(half)) >= 0 {
			m := new(big.Int).Mod(n, half.Lsh(half, 1))
			return m.FillBytes(make([]byte, size))
		}
	}
}

// model is the rule that is broken first, and by which node.
func model(t api.Node) (rule, at int) {
	var nodes []api.Node
	deepest := 0
	var walk func(t api.Node, deep int)
	walk = func(t api.Node, deep int) {
		nodes = append(nodes, t)
		deepest = max(deepest, deep)
		for _, kid := range t.Kids {
			walk(kid, deep+1)
		}
	}
	walk(t, 1)
	if deepest > 24 {
		return 5, 0
	}
	if len(nodes) > 4000 {
		return 6, 0
	}
	for i, n := range nodes {
		made := n.Tag == 16 || n.Tag == 17
		switch {
		case n.Class < 0 || n.Class > 3 || n.Tag < 0 || n.Tag > 30:
			return 1, i
		case n.Cons && len(n.Bytes) > 0 || !n.Cons && len(n.Kids) > 0:
			return 2, i
		case n.Class != 0:
		case made != n.Cons || !made && !strings.Contains(" 1 2 3 4 5 6 10 12 19 22 23 24 ", " "+big.NewInt(int64(n.Tag)).String()+" "):
			return 3, i
		case !made && !content(n.Tag, n.Bytes):
			return 4, i
		}
	}
	return 0, -1
}

func TestNames(t *testing.T) {
	for rule, want := range []string{"", "class", "form", "kind", "content", "deep", "many", ""} {
		if s := tree.Name(rule); s != want {
			t.Error(rule, s)
		}
	}
	if tree.Name(-1) != "" || tree.Name(math.MaxInt) != "" {
		t.Error("a name of none")
	}
}

func TestWrongExamples(t *testing.T) {
	for i, x := range []struct {
		t        api.Node
		rule, at int
	}{
		{universal(1, 1), 4, 0}, {universal(16), 3, 0}, {tree.Cons(2, 31), 1, 0}, {tree.Cons(0, 16, tree.Int(5), universal(5, 0)), 4, 2},
		{text(24, "20240229235959Z"), 0, -1}, {text(24, "20230229000000Z"), 4, 0}, {text(24, "20240101000000.50Z"), 4, 0},
		{tree.Prim(4, 1, nil), 1, 0}, {tree.Prim(-1, 1, nil), 1, 0}, {tree.Prim(0, -1, nil), 1, 0}, {tree.Prim(3, 30, []byte{1, 2}), 0, -1}, {tree.Prim(1, 0, nil), 0, -1}, {tree.Cons(3, 0), 0, -1}, {tree.Cons(2, 30), 0, -1},
		{api.Node{Tag: 16, Cons: true, Bytes: []byte{1}}, 2, 0}, {api.Node{Tag: 4, Kids: []api.Node{tree.Int(1)}}, 2, 0}, {api.Node{Class: 2, Kids: []api.Node{tree.Int(1)}}, 2, 0}, {api.Node{Class: 2, Cons: true, Bytes: []byte{1}}, 2, 0}, {api.Node{Tag: 77, Cons: true, Bytes: []byte{1}}, 1, 0}, {api.Node{Tag: 9, Cons: true, Bytes: []byte{1}}, 2, 0},
		{api.Node{Tag: 4, Cons: true, Bytes: []byte{}}, 3, 0}, {tree.Cons(0, 17), 0, -1}, {universal(17), 3, 0}, {tree.Cons(0, 2), 3, 0}, {tree.Cons(0, 5), 3, 0}, {universal(0), 3, 0}, {universal(7), 3, 0}, {universal(13, 1), 3, 0}, {universal(30), 3, 0},
		{tree.Cons(0, 16, tree.Cons(0, 17, tree.Int(1), universal(2)), universal(30)), 4, 3}, {tree.Cons(0, 16, universal(30), universal(2)), 3, 1},
		{api.Node{}, 3, 0},
		{chain(24), 0, -1}, {chain(25), 5, 0}, {chain(3000), 5, 0}, {wide(4000), 0, -1}, {wide(4001), 6, 0}, {wide(9000), 6, 0},
		{tree.Cons(0, 16, wide(4000), chain(24)), 5, 0}, {tree.Cons(0, 16, chain(24), wide(4000)), 5, 0}, {tree.Cons(0, 16, universal(30), wide(3999)), 6, 0}, {tree.Cons(0, 16, universal(30), wide(3998)), 3, 1}, {tree.Cons(0, 16, wide(3998), universal(30)), 3, 3999}, {tree.Cons(0, 99, wide(4000)), 6, 0}, {tree.Cons(9, 16, chain(24)), 5, 0},
	} {
		rule, at := tree.Wrong(x.t)
		if rule != x.rule || at != x.at {
			t.Error(i, rule, at)
		}
		if e := tree.Check(x.t); (e == api.OK) != (x.rule == 0) || e != api.OK && e != api.ErrTree {
			t.Error(i, e)
		}
	}
}

// TestContents goes over bytes of each tag of which one may be and the next one may not.
func TestContents(t *testing.T) {
	for _, x := range []struct {
		tag  int
		good []string
		bad  []string
	}{
		{1, []string{"\x00", "\xff"}, []string{"", "\x01", "\xfe", "\x00\x00", "\xff\xff"}},
		{2, []string{"\x00", "\x7f", "\x80", "\xff", "\x00\x80", "\xff\x7f", "\x01\x00", "\xfe\xff", "\x00\xff\xff"}, []string{"", "\x00\x00", "\x00\x7f", "\xff\x80", "\xff\xff"}},
		{10, []string{"\x00", "\xff\x7f"}, []string{"", "\x00\x01", "\xff\xff"}},
		{3, []string{"\x00", "\x00\xff", "\x07\x80", "\x07\x00", "\x01\xfe", "\x04\xff\xf0"}, []string{"", "\x01", "\x07", "\x08\x00", "\x07\x40", "\x01\x01", "\x04\x00\x08", "\xff"}},
		{4, []string{"", "\x00", "anything\xff"}, nil},
		{5, []string{""}, []string{"\x00", "ab"}},
		{6, []string{"\x00", "\x7f", "\x2a\x86\x48", "\x81\x00", "\xff\xff\x7f", "\x2a\x81\x80\x00"}, []string{"", "\x80", "\x80\x01", "\x2a\x80\x01", "\x2a\x86", "\xff", "\x00\x80\x00"}},
		{12, []string{"", "a", "é", "\u20ac", "\x00"}, []string{"\xff", "\xc3", "a\x80", "\xed\xa0\x80", "\xc0\x80"}},
		{19, []string{"", "AZaz09 '()+,-./:=?"}, []string{"@", "[", "`", "{", "/:;", "*", "&", "!", "\"", "#", "<", ">", "_", "é", "\x00", "\x7f", "a\n"}},
		{22, []string{"", "\x00\x7f", "@*_"}, []string{"\x80", "é", "a\xff"}},
		{23, []string{"700101000000Z", "491231235959Z", "000229000000Z", "500101000000Z", "960229000000Z"}, []string{"", "Z", "700101000000", "700101000000z", "7001010000Z", "19700101000000Z", "700001000000Z", "701301000000Z", "700100000000Z", "700132000000Z", "700431000000Z", "990229000000Z", "700101240000Z", "700101006000Z", "700101000060Z", "700101000000.5Z", "70010100000 Z", "-00101000000Z", "7001010000000Z"}},
		{24, []string{"00000229000000Z", "19700101000000Z", "99991231235959.999Z", "20240101000000.5Z", "20240101000000.000000000001Z", "20000229000000Z"}, []string{"", "19700101000000", "19700101000000.Z", "19700101000000.0Z", "19700101000000.10Z", "19700101000000,5Z", "19700101000000.5", "19700101000000.5ZZ", "1970010100000Z", "197001010000Z", "19700101000000.-5Z", "19700101000000.5aZ", "197001010000005Z", "19000229000000Z", "21000229000000Z", "20240230000000Z", "20240631000000Z", "20241301000000Z", "20240001000000Z", "20240100000000Z", "20240101240000Z", "20240101006000Z", "20240101000060Z", "2024010100000aZ", "a9700101000000Z", "19700101000000+5Z"}},
	} {
		for _, s := range x.good {
			if rule, at := tree.Wrong(text(x.tag, s)); rule != 0 || at != -1 {
				t.Errorf("%d %q: %d", x.tag, s, rule)
			}
		}
		for _, s := range x.bad {
			if rule, at := tree.Wrong(text(x.tag, s)); rule != 4 || at != 0 {
				t.Errorf("%d %q: %d", x.tag, s, rule)
			}
		}
	}
}

// TestDates asks for each day of some years in both kinds of times.
func TestDates(t *testing.T) {
	for _, year := range []string{"1999", "2000", "2023", "2024", "1900", "2400", "2100", "1996", "1904", "2012", "1950", "2049", "0004", "9999"} {
		for month := range 14 {
			for day := range 33 {
				s := year + two(month) + two(day) + "123456"
				if rule, _ := tree.Wrong(text(24, s+"Z")); (rule == 0) != isDate(s) {
					t.Error(s)
				}
				if (year >= "1950" && year < "2050") && (tree.Check(text(23, s[2:]+"Z")) == api.OK) != isDate(s) {
					t.Error("short", s)
				}
			}
		}
	}
}

func two(n int) string { return string([]byte{byte('0' + n/10), byte('0' + n%10)}) }

// some is a tree by chance, which may break rules.
func some(r *rand.Rand, deep int) api.Node {
	t := api.Node{Class: [...]int{0, 0, 0, 0, 0, 0, 1, 2, 3}[r.Intn(9)], Tag: r.Intn(31)}
	if r.Intn(60) == 0 {
		t.Class, t.Tag = r.Intn(7)-1, r.Intn(34)-1
	}
	t.Cons = t.Class == 0 && (t.Tag == 16 || t.Tag == 17) || t.Class != 0 && r.Intn(2) == 0
	if r.Intn(60) == 0 {
		t.Cons = !t.Cons
	}
	if !t.Cons || r.Intn(60) == 0 {
		t.Bytes = someBytes(r)
	}
	if t.Cons && deep > 0 || r.Intn(60) == 0 {
		for range r.Intn(4) {
			t.Kids = append(t.Kids, some(r, deep-1))
		}
	}
	return t
}

func someBytes(r *rand.Rand) []byte {
	samples := []string{"", "\x00", "\xff", "\x05", "\x00\x80", "\xff\x80", "20240101000000Z", "20240101000000.5Z", "240101000000Z", "abc", "\x2a\x86\x48", "\x86\x80\x01", "é", "\x03\xf8", "\x04\xf8"}
	b := []byte(samples[r.Intn(len(samples))])
	if len(b) > 0 && r.Intn(5) == 0 {
		b[r.Intn(len(b))] = byte(r.Intn(256))
	}
	return b
}

func TestAgainstModel(t *testing.T) {
	r := rand.New(rand.NewSource(1))
	fine := 0
	for range 20000 {
		x := some(r, 4)
		rule, at := tree.Wrong(x)
		if wantRule, wantAt := model(x); rule != wantRule || at != wantAt {
			t.Fatalf("%+v: %d %d, not %d %d", x, rule, at, wantRule, wantAt)
		}
		if rule == 0 {
			fine++
		}
		// What kids break is broken by the tree, and a tree that may be has kids that may be.
		for _, kid := range x.Kids {
			if tree.Check(x) == api.OK && tree.Check(kid) != api.OK {
				t.Fatal(x)
			}
		}
		if c := tree.Copy(x); !tree.Same(c, x) || !tree.Same(x, c) {
			t.Fatal(x)
		}
	}
	if fine < 1000 {
		t.Error("few trees that may be", fine)
	}
}

func TestCount(t *testing.T) {
	for i, x := range []struct {
		t           api.Node
		nodes, deep int
	}{
		{api.Node{}, 1, 1}, {tree.Int(5), 1, 1}, {tree.Cons(0, 16), 1, 1}, {tree.Cons(0, 16, tree.Int(1), tree.Cons(0, 17, tree.Int(2)), tree.Int(3)), 5, 3}, {chain(30), 30, 30}, {wide(5000), 5000, 2}, {api.Node{Tag: 4, Kids: []api.Node{{}, {}}}, 3, 2},
	} {
		if nodes, deep := tree.Count(x.t); nodes != x.nodes || deep != x.deep {
			t.Error(i, nodes, deep)
		}
	}
}

func TestPrimAndCons(t *testing.T) {
	p := tree.Prim(2, 9, []byte{1, 2})
	if p.Class != 2 || p.Tag != 9 || p.Cons || !bytes.Equal(p.Bytes, []byte{1, 2}) || len(p.Kids) != 0 {
		t.Error(p)
	}
	c := tree.Cons(3, 8, p, tree.Int(7))
	if c.Class != 3 || c.Tag != 8 || !c.Cons || len(c.Bytes) != 0 || len(c.Kids) != 2 || !tree.Same(c.Kids[0], p) || !tree.Same(c.Kids[1], tree.Int(7)) {
		t.Error(c)
	}
	if c := tree.Cons(0, 16); !c.Cons || len(c.Kids) != 0 {
		t.Error(c)
	}
}

func TestInt(t *testing.T) {
	for _, x := range []struct {
		n int64
		b []byte
	}{{0, []byte{0}}, {127, []byte{127}}, {128, []byte{0, 128}}, {-128, []byte{128}}, {-129, []byte{255, 127}}, {-1, []byte{255}}, {256, []byte{1, 0}}, {math.MaxInt64, []byte{127, 255, 255, 255, 255, 255, 255, 255}}, {math.MinInt64, []byte{128, 0, 0, 0, 0, 0, 0, 0}}} {
		if p := tree.Int(x.n); p.Class != 0 || p.Tag != 2 || p.Cons || len(p.Kids) != 0 || !bytes.Equal(p.Bytes, x.b) {
			t.Error(x.n, p)
		}
	}
	r := rand.New(rand.NewSource(2))
	for range 2000 {
		n := int64(r.Uint64()) >> r.Intn(64)
		p := tree.Int(n)
		if back, e := tree.AsInt(p); back != n || e != api.OK || tree.Check(p) != api.OK {
			t.Fatal(n, p, back, e)
		}
		p.Tag = api.TagEnum
		if back, e := tree.AsInt(p); back != n || e != api.OK {
			t.Fatal(n, p, back, e)
		}
	}
}

func TestAsIntWrong(t *testing.T) {
	for i, x := range []api.Node{
		{}, universal(3, 0), universal(1, 0), tree.Prim(2, 2, []byte{5}), tree.Prim(1, 10, []byte{5}), universal(2), universal(2, 0, 5), universal(2, 255, 255), universal(2, 1, 2, 3, 4, 5, 6, 7, 8, 9), universal(10, 0, 255, 255, 255, 255, 255, 255, 255, 255), tree.Cons(0, 2), {Tag: 2, Bytes: []byte{5}, Kids: []api.Node{{}}}, {Tag: 2, Cons: true, Bytes: []byte{5}},
	} {
		if n, e := tree.AsInt(x); n != 0 || e != api.ErrTree {
			t.Error(i, n, e)
		}
	}
}

func TestIs(t *testing.T) {
	p := tree.Prim(2, 3, nil)
	if !tree.Is(p, 2, 3) || tree.Is(p, 2, 4) || tree.Is(p, 1, 3) || tree.Is(p, 3, 2) || !tree.Is(tree.Cons(2, 3), 2, 3) {
		t.Error("is")
	}
}

func TestSame(t *testing.T) {
	base := func() api.Node { return tree.Cons(0, 16, tree.Int(1), tree.Cons(2, 1, tree.Prim(2, 0, []byte{1, 2}))) }
	for i, change := range []func(t *api.Node){
		func(t *api.Node) { t.Class = 1 }, func(t *api.Node) { t.Tag = 17 }, func(t *api.Node) { t.Cons = false }, func(t *api.Node) { t.Bytes = []byte{0} }, func(t *api.Node) { t.Kids = t.Kids[:1] }, func(t *api.Node) { t.Kids = append(t.Kids, tree.Int(1)) }, func(t *api.Node) { t.Kids[0], t.Kids[1] = t.Kids[1], t.Kids[0] },
		func(t *api.Node) { t.Kids[1].Kids[0].Bytes = []byte{1, 3} }, func(t *api.Node) { t.Kids[1].Kids[0].Bytes = []byte{1} }, func(t *api.Node) { t.Kids[1].Tag = 2 }, func(t *api.Node) { t.Kids[1].Kids = nil },
	} {
		turned := base()
		change(&turned)
		if tree.Same(base(), turned) || tree.Same(turned, base()) {
			t.Error(i)
		}
	}
	empty := api.Node{Bytes: []byte{}, Kids: []api.Node{}}
	if !tree.Same(base(), base()) || !tree.Same(empty, api.Node{}) || !tree.Same(api.Node{}, empty) {
		t.Error("not the same")
	}
}

func TestMemory(t *testing.T) {
	b := []byte{1, 2}
	p := tree.Prim(2, 1, b)
	kids := []api.Node{{Class: 2, Bytes: b}, tree.Cons(2, 2, p)}
	c := tree.Cons(2, 3, kids...)
	d := tree.Copy(c)
	b[0], kids[1].Kids[0].Bytes[0], kids[1].Kids[0].Tag, p.Bytes[1], kids[0].Tag = 9, 9, 9, 9, 9
	want := tree.Cons(2, 3, tree.Prim(2, 0, []byte{1, 2}), tree.Cons(2, 2, tree.Prim(2, 1, []byte{1, 2})))
	if !tree.Same(c, want) {
		t.Error(c)
	}
	c.Kids[0].Bytes[0], c.Kids[1].Kids[0].Tag, c.Kids[1].Kids[0].Bytes[0] = 7, 7, 7
	if !tree.Same(d, want) {
		t.Error(d)
	}
	if n := tree.Int(5); n.Bytes[0] != 5 {
		t.Error(n)
	} else if n.Bytes[0] = 6; tree.Int(5).Bytes[0] != 5 {
		t.Error("numbers share memory")
	}
}
