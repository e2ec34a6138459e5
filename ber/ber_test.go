package ber_test

import (
	"bytes"
	"encoding/hex"
	"math/big"
	"math/rand"
	"strings"
	"testing"

	"postmark/api"
	"postmark/ber"
	"postmark/der"
	"postmark/sample"
	"postmark/strict"
	"postmark/tree"
)

// element is one of the model: what it is, its content, and what stands behind it.
type element struct {
	class, tag int
	cons       bool
	content    []byte
	kids       []element
	behind     []byte
}

// parse is the model's reading of one element, after the chapter.
func parse(b []byte) (element, bool) {
	if len(b) < 2 || b[0]&31 == 31 || b[1] == 255 || b[1] == 128 && b[0]&32 == 0 {
		return element{}, false
	}
	x := element{class: int(b[0] >> 6), tag: int(b[0] & 31), cons: b[0]&32 != 0}
	rest := b[2:]
	if b[1] == 128 {
		for {
			if len(rest) >= 2 && rest[0] == 0 && rest[1] == 0 {
				x.behind = rest[2:]
				return x, true
			}
			kid, ok := parse(rest)
			if !ok {
				return element{}, false
			}
			x.kids = append(x.kids, kid)
			rest = kid.behind
		}
	}
	size := big.NewInt(int64(b[1]))
	if b[1] > 128 {
		n := int(b[1] - 128)
		if len(rest) < n {
			return element{}, false
		}
		size.SetBytes(rest[:n])
		rest = rest[n:]
	}
	if size.Cmp(big.NewInt(int64(len(rest)))) > 0 {
		return element{}, false
	}
	n := int(size.Int64())
	x.content, x.behind = rest[:n], rest[n:]
	for left := x.content; x.cons && len(left) > 0; {
		kid, ok := parse(left)
		if !ok {
			return element{}, false
		}
		x.kids = append(x.kids, kid)
		left = kid.behind
	}
	return x, true
}

// measure is how many elements there are, and how deep they lie.
func (x element) measure() (count, deep int) {
	for _, kid := range x.kids {
		n, d := kid.measure()
		count, deep = count+n, max(deep, d)
	}
	return count + 1, deep + 1
}

// tells is what an element tells.
func (x element) tells() (api.Node, bool) {
	var kids []api.Node
	for _, kid := range x.kids {
		t, ok := kid.tells()
		if !ok {
			return t, false
		}
		kids = append(kids, t)
	}
	t := api.Node{Class: x.class, Tag: x.tag}
	text := " 4 12 19 22 23 24 "
	name := " " + big.NewInt(int64(x.tag)).String() + " "
	switch {
	case x.cons && (x.class != 0 || x.tag == 16 || x.tag == 17):
		t.Cons, t.Kids = true, kids
		return t, true
	case x.cons && x.tag == 3:
		t.Bytes = []byte{0}
		for i, kid := range kids {
			if kid.Class != 0 || kid.Tag != 3 || i < len(kids)-1 && kid.Bytes[0] != 0 {
				return t, false
			}
			t.Bytes[0] = kid.Bytes[0]
			t.Bytes = append(t.Bytes, kid.Bytes[1:]...)
		}
		return t, len(kids) > 0
	case x.cons && strings.Contains(text, name):
		for _, kid := range kids {
			if kid.Class != 0 || kid.Tag != 4 {
				return t, false
			}
			t.Bytes = append(t.Bytes, kid.Bytes...)
		}
		return t, tree.Check(t) == api.OK
	case x.cons:
		return t, false
	}
	t.Bytes = bytes.Clone(x.content)
	if x.class == 0 && x.tag == 1 && len(t.Bytes) == 1 && t.Bytes[0] > 0 {
		t.Bytes[0] = 255
	}
	if x.class == 0 && x.tag == 3 && len(t.Bytes) > 1 && t.Bytes[0] < 8 {
		t.Bytes[len(t.Bytes)-1] = t.Bytes[len(t.Bytes)-1] >> t.Bytes[0] << t.Bytes[0]
	}
	return t, tree.Check(t) == api.OK
}

// model is what First has to answer.
func model(b []byte) (api.Node, int, bool) {
	x, ok := parse(b)
	if !ok || len(b)-len(x.behind) > api.MaxTree {
		return api.Node{}, 0, false
	}
	if count, deep := x.measure(); count > api.MaxParts || deep > api.MaxDeep {
		return api.Node{}, 0, false
	}
	t, ok := x.tells()
	if !ok {
		return api.Node{}, 0, false
	}
	s, e := der.Sorted(t)
	return s, len(b) - len(x.behind), e == api.OK
}

// writing is the model's writing: each node takes its two bytes of the way.
func writing(t api.Node, way *[]byte) []byte {
	next := func() int {
		if len(*way) == 0 {
			return 0
		}
		x := (*way)[0]
		*way = (*way)[1:]
		return int(x)
	}
	p, q := next(), next()
	cons := t.Cons
	content := bytes.Clone(t.Bytes)
	isBits := t.Class == 0 && t.Tag == 3 && len(t.Bytes) > 1
	isText := t.Class == 0 && !t.Cons && strings.Contains(" 4 12 19 22 23 24 ", " "+big.NewInt(int64(t.Tag)).String()+" ")
	switch {
	case t.Cons:
		var kids [][]byte
		for _, kid := range t.Kids {
			kids = append(kids, writing(kid, way))
		}
		if t.Class == 0 && t.Tag == 17 && len(kids) > 0 {
			n := q % len(kids)
			kids = append(append([][]byte{}, kids[n:]...), kids[:n]...)
		}
		content = bytes.Join(kids, nil)
	case q%2 == 1 && (isBits || isText):
		cons = true
		size := (q/2)%7 + 1
		content = nil
		rest := t.Bytes
		if isBits {
			rest = rest[1:]
		}
		for at := 0; at < len(rest); at += size {
			piece := rest[at:min(at+size, len(rest))]
			if isBits {
				unused := byte(0)
				if at+size >= len(rest) {
					unused = t.Bytes[0]
				}
				content = append(content, 3, byte(len(piece)+1), unused)
			} else {
				content = append(content, 4, byte(len(piece)))
			}
			content = append(content, piece...)
		}
	case t.Class == 0 && t.Tag == 1 && content[0] == 255 && q != 0:
		content[0] = byte(q)
	case isBits:
		for bit := range int(content[0]) {
			content[len(content)-1] |= byte(q) & (1 << bit)
		}
	}
	first := byte(64*t.Class + t.Tag)
	if cons {
		first += 32
	}
	length := der.Length(len(content))
	var end []byte
	switch {
	case p%3 == 1:
		length = make([]byte, (p/3)%5)
		length = append(length, big.NewInt(int64(len(content))).Bytes()...)
		if len(length) == 0 {
			length = []byte{0}
		}
		length = append([]byte{byte(128 + len(length))}, length...)
	case p%3 == 2 && cons:
		length, end = []byte{128}, []byte{0, 0}
	}
	return bytes.Join([][]byte{{first}, length, content, end}, nil)
}

func TestNormalExamples(t *testing.T) {
	for _, x := range []struct{ from, to string }{
		{"30800201050000", "3003020105"}, {"010107", "0101ff"}, {"04810161", "040161"}, {"0282000105", "020105"}, {"2407040161040262 63", "0403616263"}, {"2309030300 0a3b 0302045f", "0304040a3b50"}, {"3106020106020105", "3106020105020106"},
		{"058000 00", ""}, {"30020000", ""}, {"", ""}, {"30", ""}, {"3080", ""}, {"308000", ""}, {"30800000", "3000"}, {"3080000000", ""}, {"a0800000", "a000"}, {"a08002 0105 0000", "a003020105"}, {"80800000", ""}, {"0000", ""}, {"308081000000", "30028100"}, {"3080810000", ""},
		{"0480", ""}, {"04800161", ""}, {"04ff" + strings.Repeat("00", 126) + "01" + "61", ""}, {"04fe" + strings.Repeat("00", 125) + "01" + "61", "040161"}, {"048100", "0400"}, {"30810 0", "3000"}, {"0489010000000000000000", ""}, {"0488ffffffffffffffff", ""}, {"0484ffffffff", ""}, {"04890000000000000000" + "0161", "040161"}, {"0482 00", ""}, {"0481", ""}, {"040261", ""}, {"04026162", "04026162"},
		{"1f0101", ""}, {"bf1f00", ""}, {"9e00", "9e00"}, {"5f00", ""}, {"3f00", ""}, {"0700", ""}, {"0900", ""}, {"1000", ""}, {"1100", ""}, {"2800", ""},
		{"0100", ""}, {"010100", "010100"}, {"01020000", ""}, {"2103010101", ""}, {"0202 0005", ""}, {"2203020105", ""}, {"0a0105", "0a0105"}, {"0200", ""}, {"0501 00", ""}, {"2500", ""}, {"06012a", "06012a"}, {"0601 80", ""}, {"260306012a", ""},
		{"030100", "030100"}, {"0300", ""}, {"030107", ""}, {"0302 0801", ""}, {"030207ff", "03020780"}, {"0302010f", "0302010e"}, {"2300", ""}, {"23800000", ""}, {"2303030100", "030100"}, {"2306030100030100", "030100"}, {"2308030204 5f 030200 01", ""}, {"23080302004f 03020401", "0303044f00"}, {"2303 040161", ""}, {"23052303030100", "030100"}, {"230a 2304 0302040f 03020001", ""}, {"2307 030100 03020 7ff", "03020780"}, {"230703020780030100", ""},
		{"2400", "0400"}, {"24800000", "0400"}, {"2403 040161", "040161"}, {"2403 0c0161", ""}, {"2c03 0c0161", ""}, {"2c03040161", "0c0161"}, {"2c04 0402c3a9", "0c02c3a9"}, {"2c06 0401c3 0401a9", "0c02c3a9"}, {"2c030401c3", ""}, {"33030401 2a", ""}, {"3303040141", "130141"}, {"3603 0401 80", ""}, {"3603040140", "160140"},
		{"2405 2403 040161", "040161"}, {"2480 2480 040161 0000 0000", "040161"}, {"2c052c03040161", ""}, {"2c0524030401 61", "0c0161"}, {"3711 0407 37303133303130 0406303030303 05a", ""}, {"3711 0406 373030313031 0407 3030303030305a", "170d3730303130313030303030305a"}, {"3700", ""}, {"3800", ""}, {"2403020105", ""}, {"2403 840161", ""},
		{"a003020105", "a003020105"}, {"a00324010 0", ""}, {"a0022400", "a0020400"}, {"7100", "7100"}, {"b106020106020105", "b106020106020105"}, {"b1083106020106020105", "b1083106020105020106"}, {"3180310602010602010502010 40000", "310b0201043106020105020106"},
		{"31060101070101 01", "31060101ff0101ff"}, {"310702020100020105", "310702010502020100"}, {"31070401620481 0161", "3106040161040162"},
	} {
		b, err := hex.DecodeString(strings.ReplaceAll(x.from, " ", ""))
		if err != nil {
			t.Fatal(x.from)
		}
		got, e := ber.Normal(b)
		if x.to == "" {
			if got != nil || e != api.ErrBer || ber.Is(b) {
				t.Errorf("%s: %x %v", x.from, got, e)
			}
			continue
		}
		if hex.EncodeToString(got) != x.to || e != api.OK || !ber.Is(b) {
			t.Errorf("%s: %x %v", x.from, got, e)
		}
		if read, e := ber.Read(b); e != api.OK || !is(read, x.to) {
			t.Error(x.from, read, e)
		}
		if read, n, e := ber.First(append(b, 7)); e != api.OK || n != len(b) || !is(read, x.to) {
			t.Error(x.from, read, n, e)
		}
	}
}

// TestWithin: what lies within an element does not pass its end, nor the end of all.
func TestWithin(t *testing.T) {
	for _, s := range []string{"30030482000161", "300404820001616161", "3002048161", "30040403616161", "a003308002010500000000", "3003308005000000", "30810330820000", "0482", "048200", "048300", "308204"} {
		b, _ := hex.DecodeString(s)
		if x, n, e := ber.First(b[:len(b):len(b)]); e != api.ErrBer || n != 0 || !tree.Same(x, api.Node{}) {
			t.Error(s, x, n, e)
		}
	}
}

// is says whether a tree's DER is these digits.
func is(t api.Node, digits string) bool {
	b, e := der.Encode(t)
	return e == api.OK && hex.EncodeToString(b) == digits
}

// someWay is a way by chance.
func someWay(r *rand.Rand) []byte {
	way := make([]byte, r.Intn(60))
	r.Read(way)
	return way
}

// TestWays writes trees in ways, and reads them.
func TestWays(t *testing.T) {
	r := rand.New(rand.NewSource(1))
	for range 4000 {
		x, way := sample.Tree(r.Intn, 5), someWay(r)
		left := way
		want := writing(x, &left)
		b, e := ber.Write(x, way)
		if e != api.OK || !bytes.Equal(b, want) {
			t.Fatalf("%+v %v: %x, not %x", x, way, b, want)
		}
		s, _ := der.Sorted(x)
		form, _ := der.Encode(s)
		if got, e := ber.Read(b); e != api.OK || !tree.Same(got, s) {
			t.Fatalf("%x: %v %v", b, got, e)
		}
		normal, e := ber.Normal(b)
		if e != api.OK || !bytes.Equal(normal, form) || len(normal) > len(b) || !strict.Is(normal) {
			t.Fatalf("%x: %x %v", b, normal, e)
		}
		if again, e := ber.Normal(normal); e != api.OK || !bytes.Equal(again, normal) {
			t.Fatalf("%x: %x %v", normal, again, e)
		}
		plain, e := ber.Write(s, nil)
		if e != api.OK || !bytes.Equal(plain, form) {
			t.Fatalf("%+v: %x %v", s, plain, e)
		}
		for cut := range min(len(b), 60) {
			if got, n, e := ber.First(b[:cut]); e != api.ErrBer || n != 0 || !tree.Same(got, api.Node{}) || ber.Is(b[:cut]) {
				t.Fatalf("%x", b[:cut])
			}
		}
	}
}

// TestAgainstModel reads bytes that were written and then turned.
func TestAgainstModel(t *testing.T) {
	r := rand.New(rand.NewSource(2))
	fine, wrong := 0, 0
	for range 30000 {
		b, _ := ber.Write(sample.Tree(r.Intn, 4), someWay(r))
		for range r.Intn(3) {
			switch at := r.Intn(len(b)); r.Intn(4) {
			case 0:
				b[at] = []byte{0, 0x80, 0x24, 0x23, 0x30, 0x31, 0x81, 0xa0, 3, 4, 2, 1}[r.Intn(12)]
			case 1:
				b[at] = byte(r.Intn(256))
			case 2:
				b = append(b[:at:at], b[min(at+1+r.Intn(2), len(b)):]...)
				b = append(b, 0)
			case 3:
				b = append(b[:at:at], append([]byte{0, 0}[:r.Intn(3)], b[at:]...)...)
			}
		}
		want, n, ok := model(b)
		got, size, e := ber.First(b)
		if (e == api.OK) != ok || !tree.Same(got, want) || size != n {
			t.Fatalf("%x: %v %v %v, not %v %v %v", b, got, size, e, want, n, ok)
		}
		if read, e := ber.Read(b); (e == api.OK) != (ok && n == len(b)) || e == api.OK && !tree.Same(read, want) {
			t.Fatalf("%x: %v %v", b, read, e)
		}
		if ok {
			fine++
		} else {
			wrong++
		}
	}
	if fine < 3000 || wrong < 3000 {
		t.Error(fine, wrong)
	}
}

// TestReadLimits goes to the limits of bytes, elements and depth; pieces count.
func TestReadLimits(t *testing.T) {
	long := func(size int) []byte {
		return append(append([]byte{4}, der.Length(size)...), make([]byte, size)...)
	}
	open := func(tag byte, content []byte) []byte {
		return append(append([]byte{tag, 0x80}, content...), 0, 0)
	}
	nested := func(tag byte, deep int, b []byte) []byte {
		for range deep - 1 {
			b = open(tag, b)
		}
		return b
	}
	repeat := func(s string, n int) []byte { return bytes.Repeat([]byte(s), n) }
	for i, x := range []struct {
		b           []byte
		read, first api.Errno
	}{
		{long(65532), api.OK, api.OK}, {long(65533), api.ErrLong, api.ErrBer}, {append(long(65532), 0), api.ErrLong, api.OK}, {make([]byte, 65537), api.ErrLong, api.ErrBer}, {make([]byte, 65536), api.ErrBer, api.ErrBer},
		{open(0x30, long(65528)), api.OK, api.OK}, {open(0x30, long(65529)), api.ErrLong, api.ErrBer}, {append(open(0x30, long(65528)), 5), api.ErrLong, api.OK},
		{nested(0x30, 24, []byte{5, 0}), api.OK, api.OK}, {nested(0x30, 25, []byte{5, 0}), api.ErrBer, api.ErrBer}, {nested(0x30, 9000, []byte{5, 0}), api.ErrBer, api.ErrBer}, {repeat("\x30\x80", 32768), api.ErrBer, api.ErrBer},
		{nested(0x24, 24, []byte{4, 0}), api.OK, api.OK}, {nested(0x24, 25, []byte{4, 0}), api.ErrBer, api.ErrBer}, {nested(0xa0, 23, open(0x24, []byte{4, 0})), api.OK, api.OK}, {nested(0xa0, 24, open(0x24, []byte{4, 0})), api.ErrBer, api.ErrBer},
		{open(0x30, repeat("\x05\x00", 3999)), api.OK, api.OK}, {open(0x30, repeat("\x05\x00", 4000)), api.ErrBer, api.ErrBer}, {open(0x24, repeat("\x04\x01a", 3999)), api.OK, api.OK}, {open(0x24, repeat("\x04\x01a", 4000)), api.ErrBer, api.ErrBer}, {open(0x31, append(open(0x23, repeat("\x03\x01\x00", 1999)), repeat("\x05\x00", 1999)...)), api.OK, api.OK}, {open(0x31, append(open(0x23, repeat("\x03\x01\x00", 1999)), repeat("\x05\x00", 2000)...)), api.ErrBer, api.ErrBer},
	} {
		got, e := ber.Read(x.b)
		if e != x.read || ber.Is(x.b) != (e == api.OK) || e != api.OK && !tree.Same(got, api.Node{}) {
			t.Error(i, "read", e)
		}
		if normal, e := ber.Normal(x.b); e != x.read || (normal == nil) != (e != api.OK) {
			t.Error(i, "normal", e)
		}
		if _, n, e := ber.First(x.b); e != x.first || (n > 0) != (e == api.OK) {
			t.Error(i, "first", n, e)
		}
	}
}

func TestWriteWrong(t *testing.T) {
	text := func(size int) api.Node { return tree.Prim(0, 4, make([]byte, size)) }
	deep := func(n int, t api.Node) api.Node {
		for range n - 1 {
			t = tree.Cons(2, 0, t)
		}
		return t
	}
	wide := func(n int, first api.Node) api.Node {
		t := api.Node{Tag: 16, Cons: true, Kids: []api.Node{first}}
		for range n - 2 {
			t.Kids = append(t.Kids, tree.Int(1))
		}
		return t
	}
	cut := func(nodes int) []byte { return append(make([]byte, 2*nodes), 0, 1) } // the node behind so many others is cut in pieces of one byte
	for i, x := range []struct {
		t   api.Node
		way []byte
		e   api.Errno
	}{
		{api.Node{}, nil, api.ErrTree}, {tree.Prim(0, 2, nil), nil, api.ErrTree}, {deep(25, text(1)), nil, api.ErrTree}, {wide(4001, text(1)), nil, api.ErrTree}, {tree.Cons(0, 16, text(70000), api.Node{}), nil, api.ErrTree},
		{deep(24, text(1)), nil, api.OK}, {deep(24, text(1)), cut(23), api.ErrBer}, {deep(24, text(0)), cut(23), api.OK}, {deep(23, text(1)), cut(22), api.OK},
		{wide(4000, text(1)), nil, api.OK}, {wide(4000, text(1)), cut(1), api.ErrBer}, {wide(4000, text(0)), cut(1), api.OK}, {wide(3999, text(1)), cut(1), api.OK}, {wide(3999, text(2)), cut(1), api.ErrBer}, {wide(3999, text(2)), []byte{0, 0, 0, 3}, api.OK}, {wide(3999, text(3)), []byte{0, 0, 0, 3}, api.ErrBer},
		{text(65532), nil, api.OK}, {text(65533), nil, api.ErrLong}, {text(65532), []byte{1}, api.OK}, {text(65532), []byte{4}, api.ErrLong}, {text(65531), []byte{4}, api.OK}, {text(65532), []byte{2}, api.OK}, {tree.Cons(0, 16, text(65528)), []byte{2}, api.OK}, {tree.Cons(0, 16, text(65529)), []byte{2}, api.ErrLong},
		{text(1 << 20), nil, api.ErrLong}, {text(1 << 20), []byte{0, 1}, api.ErrBer}, {text(65536), []byte{0, 13}, api.ErrBer}, {text(3999), []byte{0, 1}, api.OK}, {text(4000), []byte{0, 1}, api.ErrBer}, {text(27993), []byte{0, 13}, api.OK}, {text(27994), []byte{0, 13}, api.ErrBer},
		{tree.Cons(0, 16, text(1<<20), text(4000)), append(make([]byte, 5), 1), api.ErrBer}, {tree.Cons(0, 16, text(1<<20), text(3990)), append(make([]byte, 5), 1), api.ErrLong}, {tree.Cons(0, 16, text(40000), text(40000)), nil, api.ErrLong}, {tree.Cons(0, 16, text(40000), deep(23, text(1)), text(40000)), append(make([]byte, 51), 1), api.ErrBer},
	} {
		b, e := ber.Write(x.t, x.way)
		if e != x.e || (b == nil) != (e != api.OK) {
			t.Error(i, len(b), e)
		}
		if e != api.OK {
			continue
		}
		s, _ := der.Sorted(x.t)
		if got, e := ber.Read(b); e != api.OK || !tree.Same(got, s) {
			t.Error(i, e)
		}
	}
}

func TestMemory(t *testing.T) {
	b := []byte{0x30, 6, 4, 1, 'a', 4, 1, 'b'}
	kept := bytes.Clone(b)
	x, _ := ber.Read(b)
	y, _, _ := ber.First(b)
	n, _ := ber.Normal(b)
	clear(b)
	if !is(x, hex.EncodeToString(kept)) || !is(y, hex.EncodeToString(kept)) || !bytes.Equal(n, kept) {
		t.Error("what was handed in is kept")
	}
	s := tree.Cons(0, 17, tree.Prim(0, 1, []byte{255}), tree.Prim(0, 3, []byte{4, 0xf0}), tree.Prim(0, 4, []byte("abc")))
	same := tree.Copy(s)
	way := []byte{1, 1, 0, 7, 0, 6, 0, 1}
	keptWay := bytes.Clone(way)
	w, _ := ber.Write(s, way)
	clear(w)
	if !tree.Same(s, same) || !bytes.Equal(way, keptWay) {
		t.Error("what was handed in is turned")
	}
}
